import Derived.Test.YtcaejlalnjnifaaGreatP40
import Derived.Test.YtcaejlalnjnifaaGreatP39
import Derived.Test.YtcaejlalnjnifaaGreatP41
import Derived.Test.YtcaejlalnjnifaaGreatP38
set_option maxHeartbeats 8000000
set_option maxRecDepth 2000
open Go.Value renaming slice->V,pointer->Af,tuple->Ah,agg->Ai,int->Ao,oneCell'->Aq
open Option renaming none->I,some->M
open Go.RowKit renaming Hid->H,Below->Ab
open Go.Addr renaming mk->Q
open Go renaming undef->O,World->Ad,Value->Aj,Calls->Ak,maxLen->Au
open Go.Obj renaming cells->J
open Go.Ending renaming returned->Ae
open Go.IntKind renaming i64->Ar
open Bool renaming false->Av,true->Aw
open Go.Proofs.Tryz
open Go.ChangeShapes Go.WideShapes Go.ChangeAt Go.RowKit
namespace Go.Proofs.YtcaejlalnjnifaaGreat
theorem Tryz.infoF3:(Tryz.prog.info? 152).map (·.size)=M 3:=by kernel_rfl
def HrX (w W:Ad) (B Hb:Nat) (id f:Int) (g n cap p:Nat) (S:Nat->Sl) (m:Nat) (Y:Nat->Sy) (F1 F2:Nat->Prop):Prop:=
 ∃ sa sc F1' F2',Hr W B Hb id f g n cap p S sa m sc Y F1' F2'/\Trn w W (fun x=>x=Hb\/F1 x\/F2 x)/\(∀ x,F1' x->F1 x\/w.1.size<=x)/\∀ x,F2' x->F2 x\/w.1.size<=x
def jR6 (n:Nat) (fn:Nat) (arg:Aj) (B Hb:Nat) (id f:Int) (p:Nat) (S S':Nat->Sl) (m m':Nat) (Y Y':Nat->Sy) (wE:Ad):Prop:=
 ∀ W g cap sa sc F1 F2,Ab B wE W->Hr W B Hb id f g n cap p S sa m sc Y F1 F2->Ak prog fn #[Af Hb,arg] W fun e w'=>e=Ae (Ah #[])/\HrX W w' B Hb id f g n cap p S' m' Y' F1 F2
theorem Trn.join {w w2 w3:Ad} {F G:Nat->Prop} (t1:Trn w w2 F) (t2:Trn w2 w3 G) (hG:∀ x,G x->F x\/w.1.size<=x):Trn w w3 F:=by
 refine⟨t2.os.trans t1.os,t2.tape.trans t1.tape,t2.output.trans t1.output,Bx t1.size t2.size,fun j hj hn=>?_⟩;refine(t2.block j (Br hj t1.size) (fun k=>?_)).trans (t1.block j hj hn);rcases hG j k with k|k
 .exact hn k
 .omega
def jFm (T:TypeId) (xx:List Aj) (w W:Ad) (B Nb:Nat) (id f:Int) (n:Nat) (S:Nat->Sl) (m:Nat) (Y:Nat->Sy) (F1:Nat->Prop) (v:Aj):Prop:=
 ∃ g cap sa sc F1' F2',v=V sa m sc/\NwT T xx W B Nb id f g n cap S F1'/\Ow W B (qJ m Y) (V sa m sc) F2'/\(∀ x,F1' x->¬ F2' x)/\¬ F2' Nb/\Trn w W (fun x=>x=Nb\/F1 x)/\(∀ x,F1' x->F1 x\/w.1.size<=x)/\∀ x,F2' x->w.1.size<=x/\x<W.1.size
theorem xW {T:TypeId} {xx:List Aj} {k9:Int} {k0:Nat} (id f:Int) (B Nb g n cap:Nat) (S S1 S2:Nat->Sl) (y:Sy) (a9:OA) (c9 m1 m2:Nat) (Y0 Y1 Y2:Nat->Sy) (F1:Nat->Prop) (w:Ad) (h:NwT T xx w B Nb id f g n cap S F1) (hn:n<=1048576) (hr:y.r.size<=1048576) (hk:y.k=k9) (hq:(k9=0/\k0=108)\/(k9=1/\k0=109)\/(k9=2/\k0=110)) (wE:Ad) (hE:Ab B wE w) (s1:∀ Hb,jR6 (hrN S y.r n) k0 (syV y (V a9 y.p.m c9)) B Hb id f (plN S y.r n) (slF S y.r n) S1 0 m1 Y0 Y1 wE) (s2:∀ Hb,jR6 (hrN S y.r n) 112 k9 B Hb id f (plN S y.r n) S1 S2 m1 m2 Y1 Y2 wE):Ak prog 47 #[Af Nb,syV y (V a9 y.p.m c9)] w fun e w'=>∃ v,e=Ae v/\jFm T xx w w' B Nb id f (hrN S y.r n) S2 m2 Y2 F1 v:=by
 obtain⟨A,HA⟩:=nmH w.1.size;obtain⟨R,HR⟩:=nmH (w.1.size+1);obtain⟨p,f1⟩:=nnH (plN S y.r n);obtain⟨n',o0⟩:=nnH (hrN S y.r n);obtain⟨wn,q0⟩:=nmH ((w.alloc (J (syC y (V a9 y.p.m c9)) 31)).alloc (J #[.nilFunc,.nilFunc,.nilFunc] 152));have i2:=(zP q0 HA).out;have j2:=JO q0 HR;have o2:=bl2 q0;obtain⟨w0,p0⟩:=nmH (wn.setRow R #[.func (.func 108) #[] #[],.func (.func 109) #[] #[],.func (.func 110) #[] #[]]);have RA:H (Row w0 A 31 (syC y (V a9 y.p.m c9))):=by show Row _ _ _ _;rw[p0.out];exact i2.otherRow (by have:=HA.out;have:=HR.out;omega)
 have RR:=rr p0 j2;have p1:Ab w w w0:=by rw[p0.out];exact jG o2 (by have:=HR.out;omega) _
 have z1:=hd p1;have HL:H (w.1.size<=A/\A<w0/\R<w0/\w.1.size<=R/\Nb<w/\∀ x,F1 x->x<w.1.size):=⟨by have:=HA.out;omega,RA.out.lt,RR.out.lt,by have:=HR.out;omega,h.r.lt,fun x k=>(h.l1 x k).2⟩;have KE:H (Ab B wE w/\B<=Nb/\(∀ x,F1 x->B<=x)/\B<=w):=⟨hE,h.b.1,fun x k=>(h.l1 x k).1,h.b.2⟩;have c1:=hd hk;have HQ:H _:=hq;have g3:=hd h.h1;have f2:H _:=jFc id f B Nb g n cap S y.r F1 w0 (h.below p1) hn hr;rw[f1.out,o0.out] at s2;rw[o0.out];have i3:H (∀ Hb,jR6 n' k0 (syV y (V a9 y.p.m c9)) B Hb id f p (slF S y.r n) S1 0 m1 Y0 Y1 wE):=by rw[<-f1.out,<-o0.out];exact s1
 have j3:H (∀ Hb,jR6 n' 112 k9 B Hb id f p S1 S2 m1 m2 Y1 Y2 wE):=s2;rw[f1.out,o0.out] at f2;have c3:=RA.cell 3;simp at c3;clear h p1 hn hr s1 s2 i2 o2 hE hk hq;go_enter func47,ntmps47
 go_wp2_with (rw[<-q0.out,<-HR.out,<-HA.out];refine Ca rfl 152 _ _ rfl R #[.func (.func 108) #[] #[],.func (.func 109) #[] #[],.func (.func 110) #[] #[]] rfl rfl 152 #[.nilFunc,.nilFunc,.nilFunc] ?_ Tryz.infoF3 rfl (by simp[Aq]) ?_;exact j2;rw[<-p0.out])
 refine Ax f2.out ?_;rintro e w1 ⟨g1,a0,c0,rfl,d0,t1,n1⟩;have K1:H (NwT T xx w1 B Nb id f g1 n' a0 (slF S y.r n) c0/\Trn w0 w1 (fun x=>x=Nb\/F1 x)/\∀ x,c0 x->F1 x\/w0.1.size<=x):=⟨d0,t1,n1⟩;have k3:H _:=d0.r.mid;-- the hearing's own block and the empty list of what is said
 obtain⟨gs,f0⟩:=nmH w1.1.size;obtain⟨Hb,x1⟩:=nmH (gs+1);have j0:Hb=w1.1.size+1:=by rw[x1.out,f0.out]
 obtain⟨w2,h0⟩:=nmH ((w1.alloc (J #[] 31)).alloc (J (hrC id f g1 n' a0 p (V gs 0 0)) 156));have i0:=bl2 h0;have RH:Row w2 Hb 156 (hrC id f g1 n' a0 p (V gs 0 0)):=by
  rw[h0.out,j0];have:=Row.new (w1.alloc (J #[] 31)) (hrC id f g1 n' a0 p (V gs 0 0)) 156
  simpa using this
 have O2:Ow w2 B (qJ 0 Y0) (V gs 0 0) (fun x=>x=gs):=by
  have o1:Ow (w1.alloc (J #[] 31)) B (qJ 0 Y0) (V gs 0 0) (fun x=>x=gs):=by
   refine⟨_,0,fun _ _=>O,fun _ _ _=>False,rfl,?_,⟨fun x e=>by cases e;rfl,fun _ _ _ hi=>Bo hi (Bk _),fun _ _ _ hi=>Bo hi (Bk _),fun _ _ _ _ _ hi=>Bo hi (Bk _)⟩,fun _ _ hi=>Bo hi (Bk _)⟩;have:=Cc (e:=31) (size:=10) (base:=B) w1 #[] 0 d0.b.2 (by unfold Au;omega) (by simp)
   rw[f0.out];simpa [cL] using this
  rw[h0.out];exact o1.below ((Az _ _).alloc (Ay _) _)
 have a1:w2.1.size=w1.1.size+2:=by rw[h0.out];simp
 have b1:=t1.size;have H2:H (Hr w2 B Hb id f g1 n' a0 p (slF S y.r n) gs 0 0 Y0 c0 (fun x=>x=gs)):=by
  have e1:=f0.out;have e2:=j0;have q3:=d0.b.2;exact⟨RH,d0.o.below i0,O2,fun x k1 k2=>by have:=d0.l1 x k1;omega,fun k=>by have:=d0.l1 Hb k;omega,fun k=>by omega,⟨by omega,by omega⟩,fun x k=>by have:=d0.l1 x k;omega,fun x k=>by omega⟩
 have f3:=hd (d0.below i0);have KL:H (gs=w1.1.size/\Hb=w1.1.size+1/\w2.1.size=w1.1.size+2/\w0.1.size<=w1.1.size):=⟨f0,j0,a1,b1⟩;have g2:=hd (((Trn.ofBelow _ z1).trans t1).trans (Trn.ofBelow _ i0));have e0:∀ W,Trn w2 W (fun x=>x=Hb\/c0 x\/x=gs)->∀ k t cs,Row w0 k t cs->w.1.size<=k->Row W k t cs:=fun W hW k t cs hr hk=>by
  have n3:=hr.lt;have r1:Row w1 k t cs:=(t1.block k n3 (fun q=>by
   rcases q with q|q
   .have:=HL.2.2.2.2.1;omega
   .have:=HL.2.2.2.2.2 k q;omega)).trans hr
  have r2:=r1.below i0 r1.lt;refine(hW.block k r2.lt (fun q=>?_)).trans r2;have e1:=f0.out;have e2:=j0;have l1:=r1.lt;rcases q with q|q|q
  .omega
  .rcases n1 k q with q|q
   .have:=HL.2.2.2.2.2 k q;omega
   .omega
  .omega
 have y1:H (∀ W,Trn w2 W (fun x=>x=Hb\/c0 x\/x=gs)->Row W A 31 (syC y (V a9 y.p.m c9))/\Row W R 152 #[.func (.func 108) #[] #[],.func (.func 109) #[] #[],.func (.func 110) #[] #[]]):=fun W hW=>⟨e0 W hW A _ _ RA HL.1,e0 W hW R _ _ RR HL.2.2.2.1⟩
 have g0:H (Ab B wE w2.drew):=by
  have p3:=g2.trans (Trn.drew w2 _);exact KE.1.trans (p3.below (fun x k=>by rcases k with k|k;rw[k];exact KE.out.2.1;exact KE.2.2.1 x k) KE.2.2.2)
 have e9:syV y (V a9 y.p.m c9)=Ai #[k9,y.f,y.t,y.r,y.p.r,y.p.k,y.p.n,y.p.i,y.p.b,V a9 y.p.m c9]:=by
  show Ai #[y.k,y.f,y.t,y.r,y.p.r,y.p.k,y.p.n,y.p.i,y.p.b,V a9 y.p.m c9]=_;rw[c1.out]
 have j1:=i3 Hb w2.drew g1 a0 gs 0 c0 (fun x=>x=gs) g0 (H2.below (jD w2));rw[e9] at j1;have a3:H _:=j1;clear j1 e9;obtain⟨b0,s0⟩:=y1 w2 (Trn.refl _ _);have u0:=b0.cell 0;have u1:=b0.cell 1;have u2:=b0.cell 2;have u3:=b0.cell 3;have u4:=b0.cell 4;have u5:=b0.cell 5;have u6:=b0.cell 6;have u7:=b0.cell 7;have u8:=b0.cell 8;have u9:=b0.cell 9;have uR:=s0.cell 0;have y2:=s0.cell 1;have z2:=s0.cell 2;simp at u0 u1 u2 u3 u4 u5 u6 u7 u8 u9 uR y2 z2;rw[c1.out] at u0;clear d0 t1 n1 i0 RH O2 a1 b1 e0 c3 j0 b0 s0;go_upto_region 4 with (refine Bv rfl 26 _ rfl Nb 0 rfl [id,f,V g1 n' a0] _ ?_ Cg rfl Tryz.infoNd ?_;exact k3)
 rw[<-f0.out,<-x1.out,<-h0.out];rcases HQ.out with ⟨rfl,rfl⟩|⟨rfl,rfl⟩|⟨rfl,rfl⟩;all_goals
  go_region_with (((first|go_at_call 108|go_at_call 109|go_at_call 110);refine Ax a3.out ?_;rintro e w3 ⟨rfl,p2,t2,m0,n0,h3,t3,t0,y0⟩;have K3:H (Hr w3 B Hb id f g1 n' a0 p S1 p2 m1 t2 Y1 m0 n0/\Trn w2 w3 (fun x=>x=Hb\/c0 x\/x=gs)/\(∀ x,m0 x->c0 x\/w2.1.size<=x)/\∀ x,n0 x->x=gs\/w2.1.size<=x):=⟨h3,(Trn.drew w2 _).trans t3,t0,y0⟩;clear h3 t3 t0 y0))
 all_goals
  have v0:=(y1 w3 K3.2.1).1.cell 0;simp at v0;rw[c1.out] at v0;have a2:H (Ab B wE w3):=by
   have e1:=KL.out;have o3:=H2.b.2;have b2:Ab B wE w2:=⟨g0.os,g0.tape,g0.output,g0.size,g0.block⟩;exact b2.trans (K3.2.1.below (fun x k=>by
    rcases k with k|k|k
    .rw[k];exact H2.b.1
    .exact(K1.1.l1 x k).1
    .have:=K1.1.b.2;omega) o3)
  have b3:H _:=j3 Hb w3 g1 a0 p2 t2 m0 n0 a2 K3.1;clear u0 u1 u2 u3 u4 u5 u6 u7 u8 u9 uR y2 z2;go_wp2_with fail
  refine Ax b3.out ?_;rintro e w4 ⟨rfl,q2,v2,q1,v1,h4,t4,x0,z0⟩;have z4:=h4.r.cell 4;simp at z4;have KF:H (jFm T xx w w4 B Nb id f n' S2 m2 Y2 F1 (V q2 m2 v2)):=by
   obtain⟨e1,e2,e3,e4⟩:=KL.out;have s3:=z1.size;have v3:=K3.2.1.size;have x3:=t4.size;have r3:=HL.2.2.2.2.1;have l3:∀ x,m0 x->F1 x\/w0.1.size<=x:=fun x k=>by
    rcases K3.out.2.2.1 x k with k|k
    .exact K1.2.2 x k
    .exact .inr (by omega)
   have m3:∀ x,n0 x->w0.1.size<=x:=fun x k=>by
    rcases K3.out.2.2.2 x k with k|k <;> omega
   have x2:Trn w2 w4 (fun x=>x=Hb\/c0 x\/x=gs):=K3.2.1.join t4 (fun x k=>by
    rcases k with k|k|k
    .exact .inl (.inl k)
    .rcases K3.out.2.2.1 x k with k|k
     .exact .inl (.inr (.inl k))
     .exact .inr k
    .rcases K3.out.2.2.2 x k with k|k
     .exact .inl (.inr (.inr k))
     .exact .inr k)
   have i1:∀ x,q1 x->F1 x\/w0.1.size<=x:=fun x k=>by
    rcases x0 x k with k|k
    .exact l3 x k
    .exact .inr (by omega)
   have n2:∀ x,v1 x->w0.1.size<=x:=fun x k=>by
    rcases z0 x k with k|k
    .exact m3 x k
    .omega
   have nF:=g3.out;have r0:=f3.out;have nN:¬ (Nb=Hb\/c0 Nb\/Nb=gs):=fun k=>by
    rcases k with k|k|k
    .omega
    .exact r0.h1 k
    .omega
   refine⟨g1,a0,q2,v2,q1,v1,rfl,⟨(x2.block Nb r0.r.lt nN).trans r0.r,h4.o,fun k=>?_,⟨r0.b.1,h4.b.2⟩,fun x k=>⟨?_,h4.l1 x k⟩⟩,h4.y,h4.d,fun k=>?_,g2.join x2 (fun x k=>?_),fun x k=>?_,fun x k=>⟨?_,h4.l2 x k⟩⟩
   .rcases i1 Nb k with k|k
    .exact nF k
    .omega
   .rcases i1 x k with k|k
    .exact KE.2.2.1 x k
    .have:=KE.2.2.2;omega
   .have:=n2 Nb k;omega
   .rcases k with k|k|k
    .exact .inr (by omega)
    .rcases K1.out.2.2 x k with k|k
     .exact .inl (.inr k)
     .exact .inr (by omega)
    .exact .inr (by omega)
   .rcases i1 x k with k|k
    .exact .inl k
    .exact .inr (by omega)
   .have:=n2 x k;omega
  clear h4 t4 x0 z0;go_wp2
  go_ret
  exact⟨_,rfl,KF⟩
theorem jSp {W:Ad} {B g:Nat} {y:Sy} (h:jI W B g y.p.m y.p.m y.p.S) (q:Nat) (hq:q<10):Ow W B (syD y q) ((syC y (V g y.p.m y.p.m)).toList.getD q O) (fun x=>q=9/\x=g):=by
 match q,hq with
 | 0,_|1,_|2,_|3,_|4,_|5,_|6,_|7,_|8,_=>rfl
 | 9,_=>exact xP h (fun x e=>by cases e;exact⟨rfl,rfl⟩)
theorem jBo (B Hb:Nat) (f:Int) (vs vl vm:Aj) (n:Nat) (Y:Nat->Sy) (vw:Aj) (F:Nat->Prop) (a:OA) (m cs:Nat) (w:Ad) (h:HwK w B Hb f vs vl vm n Y vw F) (hn:n<=3000) (hm:m<=100000) (a0:3000<n+m):CS 134 #[Af Hb,V a m cs] w Av:=by
 obtain⟨aw,cw,rfl,_⟩:=h.o.shape;have x4:=h.r.cell 4;simp at x4;have hi:(3000:Int)<(n:Int)+(m:Int):=by omega
 go_enter func134,ntmps134
 go_wp2
 go_ret
 exact⟨rfl,rfl⟩
theorem QI (B Hb:Nat) (f:Int) (vs vl vm:Aj) (n:Nat) (Y:Nat->Sy) (vw:Aj) (F:Nat->Prop) (a:OA) (m cs:Nat) (Z:Nat->Sy) (w:Ad) (h:HwK w B Hb f vs vl vm n Y vw F) (e2:n+m<=3000) (hK:∀ i,i<m->SyK (Z i)) (hB:B<=w) (hF:∀ x,F x->x<w.1.size) (hR:∀ c W,c<m->Trn w W (fun x=>x=Hb\/F x)->(c=0->Ab w w W)->Rd W (qJ m Z) (V a m cs)):Ak prog 134 #[Af Hb,V a m cs] w fun e w'=>e=Ae Aw/\∃ t0 F',HwK w' B Hb f vs vl vm (n+m) (fun i=>if i<n then Y i else Z (i-n)) t0 F'/\Trn w w' (fun x=>x=Hb\/F x)/\(∀ x,F' x->F x\/w.1.size<=x)/\∀ x,F' x->x<w'.1.size:=by
 obtain⟨iY,w1,i1,j1,m1⟩:=Ch Tryz.infoSyZ;obtain⟨aw,cw,rfl,_⟩:=h.o.shape;have x4:=h.r.cell 4;simp at x4;have KH:=hd h;have KR:H (∀ c W,c<m->Trn w W (fun x=>x=Hb\/F x)->(c=0->Ab w w W)->Rd W (qJ m Z) (V a m cs)):=hR;have HK:H (∀ i,i<m->SyK (Z i)):=hK;have HF0:H (∀ x,F x->x<w.1.size):=hF;have hi:¬ (3000:Int)<(n:Int)+(m:Int):=by omega
 obtain⟨n2,z1⟩:=nmH (V aw n cw);clear h hR hK hF;go_enter func134,ntmps134
 go_wp2_with fail
 go_loopw [6,18] (fun v6 v18 wr=>∃ (c:Nat) (d0:Aj) (F1:Nat->Prop),v18=Ao Ar (c:Int)/\H (c<=m/\HwK wr B Hb f vs vl vm (n+c) (fun i=>if i<n then Y i else Z (i-n)) d0 F1/\Trn w wr (fun x=>x=Hb\/F x)/\(∀ x,F1 x->F x\/w.1.size<=x)/\(∀ x,F1 x->x<wr.1.size)/\(c=0->Ab w w wr))) (fun _ v18 _=>m-(intOf v18).toNat)
 case atStart=>exact⟨0,V aw n cw,F,rfl,Bi _,⟨KH.r,KH.o.congr (fun i q hi _=>by show syD (Y i) q=syD (if i<n then Y i else Z (i-n)) q;rw[A6 hi]),KH.h,KH.b⟩,Trn.refl _ _,(fun x hx=>.inl hx),HF0,fun _=>Az _ _⟩
 case round=>
  obtain⟨c,d0,F1,rfl,HI⟩:=hrel;have b2:c<=m:=HI.1;by_cases hlt:c<m
  .have a2:(c:Int)<(m:Int):=by omega
   obtain⟨bb,fb,a9,c9,rfl,RG,t9⟩:=zY (KR c wr hlt HI.2.2.1 HI.2.2.2.2.2) hlt;obtain⟨z,Hz⟩:=nnH (Z c);have s0:=HK c hlt;rw[Hz.out] at RG t9 s0;have q1:=hd RG;obtain⟨X6,u0⟩:=nmH wr.1.size;obtain⟨wb,p0⟩:=nmH (wr.alloc (J (syC z (V a9 z.p.m c9)) 31));have e0:=bl1 p0;have rX:=(jZ p0 u0).out;obtain⟨nc,n0⟩:=nnH (n+c);obtain⟨Yc,v0⟩:=nmH (fun i=>if i<n then Y i else Z (i-n));have g0:=HI.2.1;rw[n0.out,<-v0.out] at g0;obtain⟨Yn,w0⟩:∃ x:Nat->Sy,H (x=fun i=>if i=nc then z else Yc i):=⟨_,rfl⟩;have m0:=hd g0.h;have p1:H (∀ x,F1 x->x<wb.1.size):=fun x hx=>Br (HI.2.2.2.2.1 x hx) e0.size
   have n1:B<=wb:=by have h1:=HI.2.2.1.size;have h2:=e0.size;omega
   have y1:Hb<wb:=(g0.below e0).r.lt;have k2:nc<3000:=by have:=n0.out;omega
   have y0:H (∀ W,Ab wb wb W->OwK W B 31 10 nc (fun i=>syD (Yc i)) d0 F1):=fun W hW=>((g0.below e0).below hW).o
   have KC:H (∀ W,Ab wb wb W->(W.cell? (Q Hb 4 I)=M d0/\W.frozen? (Q Hb 4 I)=Av)/\Row W X6 31 (syC z (V a9 z.p.m c9))):=fun W hW=>by
    have h1:=((g0.below e0).below hW).r;have h2:=h1.cell 4;simp at h2;exact⟨⟨h2,h1.free 4⟩,rX.below hW rX.lt⟩
   have x0:H (∀ W,Ab wb wb W->Ak prog 130 #[syV z (V a9 z.p.m c9)] W fun e w'=>∃ g,e=Ae (syV z (V (Q g 0 I) z.p.m z.p.m))/\jI w' W.1.size (Q g 0 I) z.p.m z.p.m z.p.S/\Ab W.1.size W w'):=fun W hW=>ZL z a9 c9 W ((t9.below e0).below hW) s0
   have j0:H (HwK wb B Hb f vs vl vm nc Yc d0 F1/\Ab wr.1.size wr wb):=⟨g0.below e0,e0⟩;clear RG t9 s0 e0 rX g0;go_upto_region 6 with (refine Bv rfl 31 _ rfl bb (fb+c*10) rfl (syC z (V a9 z.p.m c9)).toList _ ?_ Cd rfl Tryz.infoSy ?_;exact q1)
   rw[<-p0.out,<-u0.out];go_wp2_with fail
   refine JE Tryz.mixed 12 [([],[11]),([],[8,11]),([1],[8,11]),([2],[8,11]),([3],[4,8,11]),([],[5,6,7,8,11]),([5],[6,7,8,11]),([6],[7,8,11]),([4,6,7],[8,11]),([0],[11]),([9],[11]),([6,7,8,10],[11])] (by kernel_rfl) (fun L A9 W=>∃ (a0:Aj) (b0:Aj) (x30:Aj),A9=⟨(List.toArray (α:=Aj) ((Af Hb)::(V (Q bb fb I) m cs)::O::O::(Av)::O::(Af X6)::(Af Hb)::(Af Hb)::(Af (Q Hb 4 I))::(V aw n cw)::((n:Int))::(V (Q bb fb I) m cs)::((m:Int))::(((n:Int)+(m:Int):Int))::(Av)::(V (Q bb fb I) m cs)::((m:Int))::((c:Int))::(Aw)::(Af (Q bb (fb+c*10) I))::(Ai #[z.k,z.f,z.t,z.r,z.p.r,z.p.k,z.p.n,z.p.i,z.p.b,V a9 z.p.m c9])::(cX (L 0) (Af Hb) u22)::(cX (L 1) (Af Hb) u23)::(cX (L 2) (Af Hb) u24)::(cX (L 3) (Af (Q Hb 4 I)) u25)::(cX (L 4) (d0) u26)::(cX (L 5) (Ai (syC z (V a9 z.p.m c9))) u27)::a0::b0::x30::(cX (L 9) (Af Hb) u31)::(cX (L 10) (Af (Q Hb 4 I)) u32)::u33::[])),[]⟩/\(L 7=Av->Ab wb wb W)/\(L 11=Av->W.cell? (Q Hb 4 I)=M d0/\W.frozen? (Q Hb 4 I)=Av)/\(L 6=Aw->L 7=Av->∃ g6,a0=Ai (syC z (V (Q g6 0 I) z.p.m z.p.m))/\jI W wb (Q g6 0 I) z.p.m z.p.m z.p.S)/\(L 7=Aw->L 8=Av->∃ g6 Y6,b0=V (Q Y6 0 I) 1 1/\Row W Y6 31 (syC z (V (Q g6 0 I) z.p.m z.p.m))/\jI W wb (Q g6 0 I) z.p.m z.p.m z.p.S/\Ab wb wb W)/\(L 8=Aw->L 11=Av->∃ F8,OwK W B 31 10 (nc+1) (fun i=>syD (Yn i)) x30 F8/\Trn wb W F1/\(∀ x,F8 x->F1 x\/wb.1.size<=x)/\∀ x,F8 x->x<W.1.size)/\(L 11=Aw->∃ W1 F8,W=W1.setCell (Q Hb 4 I) x30/\OwK W1 B 31 10 (nc+1) (fun i=>syD (Yn i)) x30 F8/\Trn wb W1 F1/\(∀ x,F8 x->F1 x\/wb.1.size<=x)/\∀ x,F8 x->x<W1.1.size)) ?_ ?_ ?_
   .exact⟨u28,u29,u30,rfl,(fun _=>jD _),(fun _=>(KC _ (jD _)).1),(fun h=>by cases h),(fun h=>by cases h),(fun h=>by cases h),(fun h=>by cases h)⟩
   .rintro a9 wx ⟨a0,b0,x30,g1,-,-,-,-,-,r0⟩;simp only[Nat.reduceLT,Dn,jJ] at g1;subst g1;replace r0:=(r0 rfl)
    obtain⟨W1,F8,a1,O8,T8,k8,o0⟩:=r0;have KN:H (HwK wx B Hb f vs vl vm (nc+1) Yn x30 F8/\Trn w wx (fun x=>x=Hb\/F x)/\(∀ x,F8 x->F x\/w.1.size<=x)/\∀ x,F8 x->x<wx.1.size):=by
     rw[a1];have t1:=(HI.2.2.1.trans (Trn.ofBelow _ j0.2));have i2:=HI.2.2.1.size;have g2:=j0.2.size;have o1:¬ F8 Hb:=fun k=>by rcases k8 Hb k with k|k;exact m0.out k;omega
     have rH:Row W1 Hb 179 #[f,vs,vl,vm,d0]:=(T8.block Hb y1 m0).trans j0.1.r;refine⟨⟨rH.set 4 _,O8.frame (fun x hx _=>Ck W1 (Q Hb 4 I) x _ (fun e=>o1 (by have e1:x=Hb:=e;rw[<-e1];exact hx))),o1,j0.1.b⟩,(t1.join (T8.mono (fun x k=>.inr k:∀ x,F1 x->x=Hb\/F1 x)) (fun x k=>?_)).trans (Trn.set _ 4 _ (.inl rfl)),fun x hx=>?_,fun x hx=>?_⟩
     .rcases k with k|k
      .exact .inl (.inl k)
      .rcases HI.out.2.2.2.1 x k with k|k
       .exact .inl (.inr k)
       .exact .inr k
     .rcases k8 x hx with k|k
      .exact HI.2.2.2.1 x k
      .exact .inr (by omega)
     .simpa using o0 x hx
    have KN2:H (c+1<=m/\HwK wx B Hb f vs vl vm (n+(c+1)) (fun i=>if i<n then Y i else Z (i-n)) x30 F8/\Trn w wx (fun x=>x=Hb\/F x)/\(∀ x,F8 x->F x\/w.1.size<=x)/\(∀ x,F8 x->x<wx.1.size)/\(c+1=0->Ab w w wx)):=by
     have e1:n+(c+1)=nc+1:=by have:=n0.out;omega
     rw[e1];refine⟨by omega,⟨KN.out.1.r,KN.out.1.o.congr (fun i q hi _=>?_),KN.1.h,KN.1.b⟩,KN.2.1,KN.2.2.1,KN.2.2.2,fun h=>by omega⟩;show syD (Yn i) q=syD (if i<n then Y i else Z (i-n)) q;rw[w0.out,v0.out,<-Hz.out];show syD (if i=nc then Z c else if i<n then Y i else Z (i-n)) q=_;have:=n0.out
     by_cases e:i=nc
     .rw[A6 e,A5 (by omega),show i-n=c by omega]
     .rw[A5 e]
    clear KN a1 O8 T8 k8 o0 y0 KC x0 j0 HI;go_wp2_with fail
    go_roundw
    case rel=>exact⟨c+1,x30,F8,by go_num,KN2⟩
    case measure=>simp[intOf];omega
   .intro q9 x1 L a9 W S f0;match q9,x1 with
    | 0,_|1,_|2,_|3,_|9,_|10,_=>
     obtain⟨a0,b0,x30,rfl,hf⟩:=f0;simp only[knT,kn,knN] at S;refine jB rfl (fun _=>rfl) fun K hK=>?_
     try simp only[S,jJ]
     go_simp
     exact hK _ _ ⟨a0,b0,x30,(by simp only[Nat.reduceBEq,Be,Bp,jJ,S]),hf⟩
    | 4,_=>
     obtain⟨a0,b0,x30,rfl,h0,h1,h2,h3,h4,h5⟩:=f0;obtain⟨d3,e4,e8,c0,-⟩:=S;obtain⟨o4,oz⟩:=h1 c0;refine jB rfl (fun _=>rfl) fun K hK=>?_
     simp only[d3,jJ];go_simp
     exact hK _ _ ⟨a0,b0,x30,(by simp only[Nat.reduceBEq,Be,Bp,jJ,d3]),h0,h1,h2,h3,(ab e8),(ab c0)⟩
    | 5,_=>
     obtain⟨a0,b0,x30,rfl,h0,h1,h2,h3,h4,h5⟩:=f0;obtain⟨e5,e6,e7,e8,c0,-⟩:=S;have r1:=h0 e7;have rX:=(KC W r1).2;refine jB rfl (fun _=>rfl) fun K hK=>?_
     refine Ev 31 _ rfl X6 rfl 31 (syC z (V a9 z.p.m c9)) (0,0) _ rX Cd rfl Tryz.infoSy ?_;exact hK _ _ ⟨a0,b0,x30,(by simp[Act.put,jJ]),h0,h1,(ab e6),(ab e7),(ab e8),(ab c0)⟩
    | 6,_=>
     obtain⟨a0,b0,x30,rfl,h0,h1,h2,h3,h4,h5⟩:=f0;obtain⟨d5,e6,e7,e8,c0,-⟩:=S;have q0:=h0 e7;refine jB rfl (fun _=>rfl) fun K hK=>?_
     simp only[d5,jJ];go_simp
     refine Ax (x0 W q0) ?_;rintro e w9 ⟨g6,rfl,i0,u1⟩;have f1:=jA q0 u1;exact hK _ _ ⟨Ai (syC z (V (Q g6 0 I) z.p.m z.p.m)),b0,x30,(by simp only[Nat.reduceBEq,Be,d5,jJ]),(fun k0=>f1),(fun k0=>(KC _ f1).1),(fun k0 k1=>⟨g6,rfl,jX i0 q0.size⟩),(ab e7),(ab e8),(ab c0)⟩
    | 7,_=>
     obtain⟨a0,b0,x30,rfl,h0,h1,h2,h3,h4,h5⟩:=f0;obtain⟨d6,e7,e8,c0,-⟩:=S;have s1:=h0 e7;obtain⟨g6,rfl,i0⟩:=h2 d6 e7;have b1:Ab W.1.size W (W.alloc (J (syC z (V (Q g6 0 I) z.p.m z.p.m)) 31)):=(Az _ _).alloc (Ay _) _;have c1:=jA s1 b1;refine jB rfl (fun _=>rfl) fun K hK=>?_
     go_simp
     exact hK _ _ ⟨Ai (syC z (V (Q g6 0 I) z.p.m z.p.m)),V (Q W.1.size 0 I) 1 1,x30,(by simp only[Nat.reduceBEq,Be]),nf,(fun k0=>(KC _ c1).1),(fun _=>nf),(fun k0 k1=>⟨g6,W.1.size,rfl,Row.new W _ _,jI.below i0 b1,c1⟩),(ab e8),(ab c0)⟩
    | 8,_=>
     obtain⟨a0,b0,x30,rfl,h0,h1,h2,h3,h4,h5⟩:=f0;obtain⟨d4,d6,d7,e8,c0,-⟩:=S;obtain⟨g6,Y6,rfl,RY,i0,hB⟩:=h3 d7 e8;obtain⟨o4,oz⟩:=h1 c0;have KW:=y0 W hB;refine jB rfl (fun _=>rfl) fun K hK=>?_
     simp only[d4,jJ];refine jNm W _ _ 34 rfl B 31 iY (Ai zcY.toArray) 10 _ Dm w1 i1 j1 m1 rfl (by decide) d0 nc _ F1 rfl KW ⟨Y6,0,I⟩ 1 (syC z (V (M ⟨g6,0,I⟩) z.p.m z.p.m)).toList rfl rfl (Cf (t:=31) (fr:=(0,0)) RY) (by simp[Aq]) (syD z) (fun q x=>q=9/\x=g6) (fun q hq=>jSp (jX i0 n1) q hq) (fun q x _ hx hF=>by have h8:=(A0 i0 g6 rfl).1;have h9:=p1 x hF;omega) (fun q q' x _ _ hx j2=>by omega) (by omega) (by omega) (Bx n1 hB.size) fun v9 w9 O9 b9 T9=>?_
     have f2:=hB.size;have p4:w9.cell? (Q Hb 4 I)=M d0:=(World.cell?_of_block (T9.block Hb (by omega) m0.out)).trans o4;have pz:w9.frozen? (Q Hb 4 I)=Av:=(Cw (T9.block Hb (by omega) m0.out)).trans oz;have O8:OwK w9 B 31 10 (nc+1) (fun i=>syD (Yn i)) v9 (fun x=>(F1 x\/wb.1.size<=x)/\x<w9.1.size):=(O9.mono (fun x hx=>⟨by
      rcases hx.2 with (h|⟨q,_,h⟩)|h
      .exact .inl h
      .exact .inr (by have h8:=(A0 i0 g6 rfl).1;omega)
      .exact .inr (by omega),hx.1⟩)).congr (fun i q hi _=>by show (if i=nc then syD z else syD (Yc i)) q=syD (Yn i) q;rw[w0.out];show _=syD (if i=nc then z else Yc i) q;by_cases e:i=nc;rw[A6 e,A6 e];rw[A5 e,A5 e])
     exact hK _ _ ⟨a0,V (Q Y6 0 I) 1 1,v9,(by simp[Act.put,jJ,d4]),(ba d7),(fun k0=>⟨p4,pz⟩),(fun _=>ba d7),(fun _=>nf),(fun k0 k1=>⟨_,O8,(Trn.ofBelow _ hB).trans T9,(fun x hx=>hx.1),fun x hx=>hx.2⟩),(ab c0)⟩
    | 11,_=>
     obtain⟨a0,b0,x30,rfl,h0,h1,h2,h3,h4,h5⟩:=f0;obtain⟨d6,d7,d8,z0,c0,-⟩:=S;obtain⟨o4,oz⟩:=h1 c0;obtain⟨F8,O8,T8,k8,o0⟩:=h4 d8 c0;obtain⟨a8,c8,rfl,_⟩:=O8.shape;refine jB rfl (fun _=>rfl) fun K hK=>?_
     simp only[z0,jJ];go_simp
     exact hK _ _ ⟨a0,b0,V a8 (nc+1) c8,(by simp only[Nat.reduceBEq,Be,z0,jJ]),(ba d7),nf,(fun _=>ba d7),(fun _=>ba d8),(fun _=>nf),(fun k0=>⟨W,F8,rfl,O8,T8,k8,o0⟩)⟩
    | n9+12,h=>exact Bo h (by omega)
  .have v1:c=m:=by omega
   subst v1;have m2:¬ ((c:Int)<(c:Int)):=by omega
   have KE:H (∃ t0 F',HwK wr B Hb f vs vl vm (n+c) (fun i=>if i<n then Y i else Z (i-n)) t0 F'/\Trn w wr (fun x=>x=Hb\/F x)/\(∀ x,F' x->F x\/w.1.size<=x)/\∀ x,F' x->x<wr.1.size):=⟨d0,F1,HI.2.1,HI.2.2.1,HI.2.2.2.1,HI.2.2.2.2.1⟩;clear HI;go_wp2
   go_ret
   exact⟨rfl,KE⟩
def zG (f:Int):Nat:=(3*f+1).toNat
theorem vL {f:Int} (h:1<=f/\f<=3):(zG f:Int)=3*f+1:=by unfold zG;omega
def hvA (S:Nat->Sl) (p:Nat) (y:Sy):Nat->Sl:=if y.k=1 then jCh S p (xK (S p).ze y.f) else jEd S p (xK (S p).zr y.f)
def hvT (f:Int) (S:Nat->Sl) (p:Nat) (y:Sy):Int:=stI f (hvA S p y p).ze.length (hvA S p y p).zr.length
def hvB (f:Int) (S:Nat->Sl) (p:Nat) (y:Sy):Nat->Sl:=if y.k=1 then hvA S p y else XT (hvA S p y) p ((hvA S p y p).o || decide (2<=hvT f S p y))
def hvR (f:Int) (S:Nat->Sl) (p:Nat) (y:Sy):Prop:=1<=hvT f S p y/\(hvA S p y p).d=Av
def hvE (id f:Int) (S:Nat->Sl) (p:Nat) (y:Sy):Prop:=(S p).e=Av/\vS y.r id f y.p.r y.p.k y.p.n y.p.i y.p.b y.p.m y.p.S=Aw
open Classical in
noncomputable def hvS (id f:Int) (S:Nat->Sl) (p:Nat) (y:Sy):Nat->Sl:=if y.k=0 then (if hvE id f S p y then xH S p y.p else S) else if hvR f S p y then jAn (hvB f S p y) p else hvB f S p y
open Classical in
noncomputable def hvM (id f:Int) (S:Nat->Sl) (p:Nat) (y:Sy):Nat:=if y.k=0 then (if hvE id f S p y then zG f else 0) else if hvR f S p y then zG f else 0
def hvY (id:Int) (S:Nat->Sl) (p:Nat) (y:Sy):Nat->Sy:=syM (fun _=>syA 0 0 (S p).r 0) 0 (if y.k=0 then 1 else 2) id (S p).r
theorem jF1 (id:Int) (S:Nat->Sl) (p:Nat) (y:Sy) (i:Nat):hvY id S p y i=syA (if y.k=0 then 1 else 2) id (S p).r i:=by unfold hvY syM;simp
theorem jKh (S:Nat->Sl) (r:BA) (n:Nat):plN S r n<hrN S r n:=by
 unfold plN hrN;cases e:plc S r n with
 | none=>simp
 | some x=>
  obtain⟨_,h,_,_⟩:=xA e;simpa using h
theorem HrX.of {w W:Ad} {B Hb:Nat} {id f:Int} {g n cap p:Nat} {S:Nat->Sl} {sa:OA} {m sc:Nat} {Y:Nat->Sy} {F1 F2:Nat->Prop} (h:Hr W B Hb id f g n cap p S sa m sc Y F1 F2) (t:Trn w W (fun x=>x=Hb\/F1 x\/F2 x)):HrX w W B Hb id f g n cap p S m Y F1 F2:=⟨sa,sc,F1,F2,h,t,fun _ k=>.inl k,fun _ k=>.inl k⟩
structure HvK (S:Nat->Sl) (p:Nat) (y:Sy):Prop where
 ze:(S p).ze.length<=1048575
 zr:(S p).zr.length<=1048575
 se:(S p).ze.Pairwise (.<=.)
 sr:(S p).zr.Pairwise (.<=.)
 r:(S p).r.size<=1048576
 m:y.p.m<=1048576
 pr:y.p.r.size<=1048576
 pb:y.p.b.size<=1048576
 ps:∀ i,i<y.p.m->(y.p.S i).size<=1048576
theorem jL3 {T:TypeId} {xx:List Aj} (id f:Int) (B Nb g n cap:Nat) (S:Nat->Sl) (y:Sy) (a9:OA) (c9:Nat) (F1:Nat->Prop) (w wE:Ad) (h:NwT T xx w B Nb id f g n cap S F1) (hn:n<=1048576) (hr:y.r.size<=1048576) (hk:0<=y.k/\y.k<=2) (hf:1<=f/\f<=3) (hE:Ab B wE w) (hT:∀ W,Ab B wE W->jK W a9 y.p.m y.p.S) (hK:HvK (slF S y.r n) (plN S y.r n) y):Ak prog 47 #[Af Nb,syV y (V a9 y.p.m c9)] w fun e w'=>∃ v,e=Ae v/\jFm T xx w w' B Nb id f (hrN S y.r n) (hvS id f (slF S y.r n) (plN S y.r n) y) (hvM id f (slF S y.r n) (plN S y.r n) y) (hvY id (slF S y.r n) (plN S y.r n) y) F1 v:=by
 have hp:=jKh S y.r n;have h3:=vL hf;obtain⟨S0,b0⟩:∃ x,x=slF S y.r n:=⟨_,rfl⟩;obtain⟨p,HP⟩:∃ x,x=plN S y.r n:=⟨_,rfl⟩;rw[<-b0,<-HP] at hK |-;rw[<-HP] at hp;by_cases k0:y.k=0
 .have eY:hvY id S0 p y=syM (fun _=>syA 0 0 (S0 p).r 0) 0 1 id (S0 p).r:=by unfold hvY;rw[A6 k0]
  rw[eY];by_cases he:hvE id f S0 p y
  have eS:hvS id f S0 p y=xH S0 p y.p:=by unfold hvS;rw[A6 k0,A6 he]
  have eM:hvM id f S0 p y=0+zG f:=by unfold hvM;rw[A6 k0,A6 he];omega
  rw[eS,eM];refine xW id f B Nb g n cap S (xH S0 p y.p) (xH S0 p y.p) y a9 c9 (0+zG f) (0+zG f) (fun _=>syA 0 0 (S0 p).r 0) (syM (fun _=>syA 0 0 (S0 p).r 0) 0 1 id (S0 p).r) _ F1 w h hn hr k0 (.inl ⟨rfl,rfl⟩) wE hE ?_ ?_
  .intro Hb W g cap sa sc F1 F2 hW hH;rw[<-b0,<-HP] at hH;rw[<-HP];exact jEl id f B Hb g _ cap p S0 sa 0 sc _ F1 F2 y a9 c9 (zG f) W hH hf hp (hT W hW) hK.m hK.pr hK.pb hK.ps he.1 he.2 (by omega) hK.r h3
  rotate_left;have eS:hvS id f S0 p y=S0:=by unfold hvS;rw[A6 k0,A5 he]
  have eM:hvM id f S0 p y=0:=by unfold hvM;rw[A6 k0,A5 he]
  rw[eS,eM];have c0:(S0 p).e=Aw\/vS y.r id f y.p.r y.p.k y.p.n y.p.i y.p.b y.p.m y.p.S=Av:=by
   unfold hvE at he;cases e1:(S0 p).e with
   | true=>exact .inl rfl
   | false=>
    right
    cases e2:vS y.r id f y.p.r y.p.k y.p.n y.p.i y.p.b y.p.m y.p.S with
    | false=>rfl
    | true=>exact Bo ⟨e1,e2⟩ he
  refine xW id f B Nb g n cap S S0 S0 y a9 c9 0 0 (syM (fun _=>syA 0 0 (S0 p).r 0) 0 1 id (S0 p).r) (syM (fun _=>syA 0 0 (S0 p).r 0) 0 1 id (S0 p).r) _ F1 w h hn hr k0 (.inl ⟨rfl,rfl⟩) wE hE ?_ ?_
  .intro Hb W g cap sa sc F1 F2 hW hH;rw[<-b0,<-HP] at hH;rw[<-HP];refine(jEk id f B Hb g _ cap p S0 sa 0 sc _ F1 F2 y a9 c9 W hH hf hp (hT W hW) hK.m (fun i hi=>Bx (hK.ps i hi) (by unfold Au;omega)) c0).mono ?_;rintro e w' ⟨rfl,hh,t⟩;exact⟨rfl,HrX.of hh t⟩
  rotate_left;all_goals
   .intro Hb W g cap sa sc F1 F2 _ hH;rw[<-HP] at hH |-;refine(jFb id f B Hb g _ cap p _ sa _ sc _ F1 F2 _ W hH hf hp rfl).mono ?_;rintro e w' ⟨rfl,hh,t⟩;exact⟨rfl,HrX.of hh t⟩
 .have eY:hvY id S0 p y=syM (fun _=>syA 0 0 (S0 p).r 0) 0 2 id (S0 p).r:=by unfold hvY;rw[A5 k0]
  rw[eY];by_cases k1:y.k=1
  .have eA:hvA S0 p y=jCh S0 p (xK (S0 p).ze y.f):=by unfold hvA;rw[A6 k1]
   have eB:hvB f S0 p y=hvA S0 p y:=by unfold hvB;rw[A6 k1]
   have eR:(hvA S0 p y p).r=(S0 p).r:=by rw[eA];unfold jCh;simp
   have hz:(S0 p).ze.length<=1048576:=by have:=hK.ze;omega
   by_cases hR:hvR f S0 p y
   .have eS:hvS id f S0 p y=jAn (hvB f S0 p y) p:=by unfold hvS;rw[A5 k0,A6 hR]
    have eM:hvM id f S0 p y=0+zG f:=by unfold hvM;rw[A5 k0,A6 hR];omega
    rw[eS,eM,eB];refine xW id f B Nb g n cap S (hvA S0 p y) _ y a9 c9 0 (0+zG f) (fun _=>syA 0 0 (S0 p).r 0) (fun _=>syA 0 0 (S0 p).r 0) (syM (fun _=>syA 0 0 (S0 p).r 0) 0 2 id (S0 p).r) F1 w h hn hr k1 (.inr (.inl ⟨rfl,rfl⟩)) wE hE ?_ ?_
    .intro Hb W g cap sa sc F1 F2 _ hH;rw[<-b0,<-HP] at hH;rw[<-HP,eA];refine(XO id f B Hb g _ cap p S0 sa 0 sc _ F1 F2 y (V a9 y.p.m c9) W hH hp hz hK.se).mono ?_;rintro e w' ⟨rfl,a0,hh,t,hF⟩;exact⟨rfl,sa,sc,a0,F2,hh,t,hF,fun _ k=>.inl k⟩
    .intro Hb W g cap sa sc F1 F2 _ hH;rw[<-HP] at hH |-;have:=jDy id f B Hb g _ cap p (hvA S0 p y) sa 0 sc (fun _=>syA 0 0 (S0 p).r 0) F1 F2 (zG f) _ W hH hf hp rfl hR.1 hR.2 (by omega) (by rw[eR];exact hK.r) h3
     rw[eR] at this;exact this
   .have eS:hvS id f S0 p y=hvB f S0 p y:=by unfold hvS;rw[A5 k0,A5 hR]
    have eM:hvM id f S0 p y=0:=by unfold hvM;rw[A5 k0,A5 hR]
    rw[eS,eM,eB];have c0:hvT f S0 p y<1\/(hvA S0 p y p).d=Aw:=by
     by_cases q:hvT f S0 p y<1
     .exact .inl q
     .right
      cases e1:(hvA S0 p y p).d with
      | true=>rfl
      | false=>exact Bo ⟨by omega,e1⟩ hR
    refine xW id f B Nb g n cap S (hvA S0 p y) _ y a9 c9 0 0 (syM (fun _=>syA 0 0 (S0 p).r 0) 0 2 id (S0 p).r) (syM (fun _=>syA 0 0 (S0 p).r 0) 0 2 id (S0 p).r) _ F1 w h hn hr k1 (.inr (.inl ⟨rfl,rfl⟩)) wE hE ?_ ?_
    .intro Hb W g cap sa sc F1 F2 _ hH;rw[<-b0,<-HP] at hH;rw[<-HP,eA];refine(XO id f B Hb g _ cap p S0 sa 0 sc _ F1 F2 y (V a9 y.p.m c9) W hH hp hz hK.se).mono ?_;rintro e w' ⟨rfl,a0,hh,t,hF⟩;exact⟨rfl,sa,sc,a0,F2,hh,t,hF,fun _ k=>.inl k⟩
    .intro Hb W g cap sa sc F1 F2 _ hH;rw[<-HP] at hH |-;refine(jDx id f B Hb g _ cap p (hvA S0 p y) sa 0 sc _ F1 F2 _ W hH hf hp rfl c0).mono ?_;rintro e w' ⟨rfl,hh,t⟩;exact⟨rfl,HrX.of hh t⟩
  .have k2:y.k=2:=by omega
   have eA:hvA S0 p y=jEd S0 p (xK (S0 p).zr y.f):=by unfold hvA;rw[A5 k1]
   have eB:hvB f S0 p y=XT (hvA S0 p y) p ((hvA S0 p y p).o || decide (2<=hvT f S0 p y)):=by unfold hvB;rw[A5 k1]
   have eR:(hvA S0 p y p).r=(S0 p).r:=by rw[eA];unfold jEd;simp
   have hz:(S0 p).zr.length<=1048576:=by have:=hK.zr;omega
   by_cases hR:hvR f S0 p y
   .have eS:hvS id f S0 p y=jAn (hvB f S0 p y) p:=by unfold hvS;rw[A5 k0,A6 hR]
    have eM:hvM id f S0 p y=0+zG f:=by unfold hvM;rw[A5 k0,A6 hR];omega
    rw[eS,eM,eB];refine xW id f B Nb g n cap S (hvA S0 p y) _ y a9 c9 0 (0+zG f) (fun _=>syA 0 0 (S0 p).r 0) (fun _=>syA 0 0 (S0 p).r 0) (syM (fun _=>syA 0 0 (S0 p).r 0) 0 2 id (S0 p).r) F1 w h hn hr k2 (.inr (.inr ⟨rfl,rfl⟩)) wE hE ?_ ?_
    .intro Hb W g cap sa sc F1 F2 _ hH;rw[<-b0,<-HP] at hH;rw[<-HP,eA];refine(QJ id f B Hb g _ cap p S0 sa 0 sc _ F1 F2 y (V a9 y.p.m c9) W hH hp hz hK.sr).mono ?_;rintro e w' ⟨rfl,a0,hh,t,hF⟩;exact⟨rfl,sa,sc,a0,F2,hh,t,hF,fun _ k=>.inl k⟩
    .intro Hb W g cap sa sc F1 F2 _ hH;rw[<-HP] at hH |-;have:=jD0 id f B Hb g _ cap p (hvA S0 p y) sa 0 sc (fun _=>syA 0 0 (S0 p).r 0) F1 F2 (zG f) _ W hH hf hp rfl hR.1 hR.2 (by omega) (by rw[eR];exact hK.r) h3
     rw[eR] at this;exact this
   .have eS:hvS id f S0 p y=hvB f S0 p y:=by unfold hvS;rw[A5 k0,A5 hR]
    have eM:hvM id f S0 p y=0:=by unfold hvM;rw[A5 k0,A5 hR]
    rw[eS,eM,eB];have c0:hvT f S0 p y<1\/(hvA S0 p y p).d=Aw:=by
     by_cases q:hvT f S0 p y<1
     .exact .inl q
     .right
      cases e1:(hvA S0 p y p).d with
      | true=>rfl
      | false=>exact Bo ⟨by omega,e1⟩ hR
    refine xW id f B Nb g n cap S (hvA S0 p y) _ y a9 c9 0 0 (syM (fun _=>syA 0 0 (S0 p).r 0) 0 2 id (S0 p).r) (syM (fun _=>syA 0 0 (S0 p).r 0) 0 2 id (S0 p).r) _ F1 w h hn hr k2 (.inr (.inr ⟨rfl,rfl⟩)) wE hE ?_ ?_
    .intro Hb W g cap sa sc F1 F2 _ hH;rw[<-b0,<-HP] at hH;rw[<-HP,eA];refine(QJ id f B Hb g _ cap p S0 sa 0 sc _ F1 F2 y (V a9 y.p.m c9) W hH hp hz hK.sr).mono ?_;rintro e w' ⟨rfl,a0,hh,t,hF⟩;exact⟨rfl,sa,sc,a0,F2,hh,t,hF,fun _ k=>.inl k⟩
    .intro Hb W g cap sa sc F1 F2 _ hH;rw[<-HP] at hH |-;refine(jDz id f B Hb g _ cap p (hvA S0 p y) sa 0 sc _ F1 F2 _ W hH hf hp rfl c0).mono ?_;rintro e w' ⟨rfl,a0,hh,t,hF⟩;exact⟨rfl,sa,sc,a0,F2,hh,t,hF,fun _ k=>.inl k⟩
structure NhB (n:Nat) (S:Nat->Sl) (y:Sy):Prop where
 kn:n<=1048576
 k:∀ i,i<n->SlK (S i)
 r:y.r.size<=1048576
 m:y.p.m<=1048576
 pr:y.p.r.size<=1048576
 pb:y.p.b.size<=1048576
 ps:∀ i,i<y.p.m->(y.p.S i).size<=1048576
theorem SlK.ok {s:Sl} (h:SlK s):SlN s:=⟨h.m,fun i hi=>Bx (h.tx i hi) (by unfold Au;omega),h.ne,h.nr⟩
theorem XX.at {f:Int} {zs:List Int} (h:XX f zs):∀ i,i<zs.length->(i:Int)<=zs.getD i 0:=by
 intro i;induction i with
 | zero=>intro hi;exact_mod_cast (h 0 hi).1.1
 | succ j ih=>
  intro hi;have h1:=ih (by omega);have h2:=(h (j+1) hi).2 (by omega);simp only[Nat.add_sub_cancel] at h2;omega
theorem XX.len {f:Int} {zs:List Int} (h:XX f zs) (hf:1<=f/\f<=3):zs.length<=10:=by
 rcases Fz zs.length with k|k
 .omega
 .have h1:=h.at (zs.length-1) (by omega);have h2:=(h (zs.length-1) (by omega)).1.2;omega
theorem XX.step {f:Int} {zs:List Int} (h:XX f zs) (i:Nat):∀ d,i+d<zs.length->zs.getD i 0<=zs.getD (i+d) 0:=by
 intro d;induction d with
 | zero=>intro _;exact Int.le_refl _
 | succ j ih=>
  intro hi;have h1:=ih (by omega);have h2:=(h (i+(j+1)) hi).2 (by omega);have e:i+(j+1)-1=i+j:=by omega
  rw[e] at h2;omega
theorem XX.sorted {f:Int} {zs:List Int} (h:XX f zs):zs.Pairwise (.<=.):=by
 rw[Ep];intro i j hi hj a0;have:=h.step i (j-i) (by omega)
 have e:i+(j-i)=j:=by omega
 rw[e] at this;simpa [List.getD_eq_getElem?_getD,Bj hi,Bj hj] using this
theorem XE {f:Int} {zs:List Int} (h:JH f zs=Aw):XX f zs:=by
 rcases G9 (XX f zs) with k|k
 .exact k
 .rw[ZY k] at h;cases h
theorem jDg {id f:Int} {n:Nat} {S:Nat->Sl} (h:ndB id f n S=Aw):NdP id f n S:=by
 rcases G9 (NdP id f n S) with k|k
 .exact k
 .rw[xX k] at h;cases h
theorem QO {id f:Int} {n:Nat} {S:Nat->Sl} {y:Sy} (h:vK id f n S y=Aw):jG3 id f n S y:=by
 rcases G9 (jG3 id f n S y) with k|k
 .exact k
 .rw[vF k] at h;cases h
theorem jGj (S:Nat->Sl) (r:BA) (n:Nat):(plN S r n=n/\slF S r n (plN S r n)=slR r)\/(plN S r n<n/\slF S r n (plN S r n)=S (plN S r n)/\(S (plN S r n)).r=r):=by
 unfold plN;cases e:plc S r n with
 | none=>left;simp[slF]
 | some x=>
  obtain⟨_,h,h1,_⟩:=xA e;right
  refine⟨by simp;omega,?_,h1⟩;unfold slF;rw[A5 (by simp;omega)]
noncomputable def nhB (id f:Int) (n:Nat) (S:Nat->Sl) (y:Sy):Bool:=ndB id f n S&&vK id f n S y
noncomputable def nhN (id f:Int) (n:Nat) (S:Nat->Sl) (y:Sy):Nat:=if nhB id f n S y then hrN S y.r n else n
noncomputable def nhS (id f:Int) (n:Nat) (S:Nat->Sl) (y:Sy):Nat->Sl:=if nhB id f n S y then hvS id f (slF S y.r n) (plN S y.r n) y else S
noncomputable def nhM (id f:Int) (n:Nat) (S:Nat->Sl) (y:Sy):Nat:=if nhB id f n S y then hvM id f (slF S y.r n) (plN S y.r n) y else 0
noncomputable def nhY (id f:Int) (n:Nat) (S:Nat->Sl) (y:Sy):Nat->Sy:=if nhB id f n S y then hvY id (slF S y.r n) (plN S y.r n) y else fun _=>syA 0 0 y.r 0
theorem jJc {id f:Int} {n:Nat} {S:Nat->Sl} {y:Sy} (hB:NhB n S y) (h:NdP id f n S):HvK (slF S y.r n) (plN S y.r n) y:=by
 have hf:=XZ h.1;rcases jGj S y.r n with ⟨_,k⟩|⟨k1,k,_⟩
 .refine⟨?_,?_,?_,?_,?_,hB.m,hB.pr,hB.pb,hB.ps⟩ <;> rw[k]
  .simp[slR]
  .simp[slR]
  .simp[slR]
  .simp[slR]
  .exact hB.r
 .have hs:=(h.2.2 _ k1).1;have he:=XE hs.2.1;have hz:=XE hs.2.2.1;refine⟨?_,?_,?_,?_,?_,hB.m,hB.pr,hB.pb,hB.ps⟩ <;> rw[k]
  .have:=he.len hf;omega
  .have:=hz.len hf;omega
  .exact he.sorted
  .exact hz.sorted
  .have:=hs.1;omega
theorem jGe (zs:List Int) (x:Int):(xK zs x).length<=zs.length+1:=by
 unfold xK;split
 .omega
 .simp[List.length_append,List.length_take,List.length_drop];omega
end Go.Proofs.YtcaejlalnjnifaaGreat
namespace Go.Proofs.YtcaejlalnjnifaaGreat
open Go.ChangeShapes Go.WideShapes Go.ChangeAt Go.RowKit Go.Sort
def Rf (W:Ad) (E:Nat->Prop) (d:Dt) (v:Aj):Prop:=∀ W',W.1.size<=W'.1.size->(∀ b,¬ E b->b<W.1.size->W'.1[b]?=W.1[b]?)->Rd W' d v
theorem Rf.rd {W:Ad} {E:Nat->Prop} {d:Dt} {v:Aj} (h:Rf W E d v):Rd W d v:=h W (Ay _) (fun _ _ _=>rfl)
theorem Rf.turn {W W2:Ad} {E:Nat->Prop} {d:Dt} {v:Aj} (h:Rf W E d v) (hs:W.1.size<=W2.1.size) (ht:∀ b,¬ E b->b<W.1.size->W2.1[b]?=W.1[b]?):Rf W2 E d v:=
 fun W' h1 h2=>h W' (Bx hs h1) (fun b hb hl=>(h2 b hb (Br hl hs)).trans (ht b hb hl))
theorem Rf.below {W W2:Ad} {E:Nat->Prop} {d:Dt} {v:Aj} (h:Rf W E d v) (hb:Ab W W W2):Rf W2 E d v:=h.turn hb.size (fun b _ hl=>hb.block b hl)
theorem Rf.setCell {W:Ad} {E:Nat->Prop} {d:Dt} {v:Aj} (h:Rf W E d v) {g:Nat} (hg:E g) (i:Nat) (u:Aj):Rf (W.setCell (Q g i I) u) E d v:=h.turn (by simp) (fun b hb _=>Df _ _ _ _ (fun e=>hb (e▸hg)))
theorem Rf.setRow {W:Ad} {E:Nat->Prop} {d:Dt} {v:Aj} (h:Rf W E d v) {g:Nat} (hg:E g) (cs:Array Aj):Rf (W.setRow g cs) E d v:=h.turn (by simp) (fun b hb _=>Cj _ _ _ _ (fun e=>hb (e▸hg)))
theorem Rf.of_ow {W:Ad} {B:Nat} {E F:Nat->Prop} {d:Dt} {v:Aj} (h:Ow W B d v F) (hE:∀ x,F x->¬ E x):Rf W E d v:=fun _ _ h2=>(h.frame (fun x hx hl=>h2 x (hE x hx) hl)).rd
theorem Rf.val {W:Ad} {E:Nat->Prop} (v:Aj):Rf W E (.val v) v:=fun _ _ _=>rfl
theorem Rf.mono {W:Ad} {E E':Nat->Prop} {d:Dt} {v:Aj} (h:Rf W E d v) (he:∀ x,E' x->E x):Rf W E' d v:=fun W' h1 h2=>h W' h1 (fun b hb hl=>h2 b (fun k=>hb (he b k)) hl)
theorem zR {W W':Ad} {b o:Nat} (h:W'.1[b]?=W.1[b]?):W'.cell? (Q b o I)=W.cell? (Q b o I):=by
 simp only[World.cell?,h]
theorem Rf.ints {W:Ad} {E:Nat->Prop} {a:OA} {c:Nat} {zs:List Int} (h:jH W a zs.length zs) (hE:∀ b,a=M b->¬ E b.block):Rf W E (inD zs) (V a zs.length c):=by
 intro W' h1 h2;refine qK.2 ⟨h.1,fun i hi=>?_⟩;obtain⟨b,off,ea,hc⟩:=h.2 i hi;refine⟨b,off,ea,?_⟩;have hl:=A7 hc;rw[zR (h2 b (hE _ ea) hl)];exact hc
def NhR (w W:Ad) (id f:Int) (n:Nat) (S:Nat->Sl) (m:Nat) (Y:Nat->Sy) (e:Ending):Prop:=
 ∃ a c sa sc,e=Ae (Ah #[ndV id f (V a n c),V sa m sc])/\Rf W (fun b=>b<w.1.size) (qG n S) (V a n c)/\Rf W (fun b=>b<w.1.size) (qJ m Y) (V sa m sc)/\Ab w w W/\∃ F,Ow W w (qG n S) (V a n c) F
theorem SlK.s {s:Sl} (h:SlK s):SlS s:=⟨h.m,h.ne,h.nr⟩
theorem jB1 (W:Ad) (g:Nat) (y:Nat->Sy):Rd W (qJ 0 y) (V g 0 0):=⟨_,_,rfl,fun i hi=>Bo hi (Bk i)⟩
structure MhA (w w0 W:Ad) (A C D:Nat) (id f:Int) (g n c:Nat) (S:Nat->Sl) (y:Sy) (a9:OA) (c9 gs:Nat):Prop where
 ra:Row W A 26 #[id,f,V g n c]
 rc:Row W C 31 (syC y (V a9 y.p.m c9))
 rd:Row W D 26 #[(),(),V I 0 0]
 o:Ow W w0 (qG n S) (V g n c) (rng w0 gs)
 b:Ab w w W
 s:Row W gs 31 #[]
 l1:w0.1.size<=gs
 l2:gs<W
theorem MhA.below {w w0 W W':Ad} {A C D:Nat} {id f:Int} {g n c:Nat} {S:Nat->Sl} {y:Sy} {a9:OA} {c9 gs:Nat} (h:MhA w w0 W A C D id f g n c S y a9 c9 gs) (hb:Ab W W W'):MhA w w0 W' A C D id f g n c S y a9 c9 gs:=
 ⟨h.ra.below hb h.ra.lt,h.rc.below hb h.rc.lt,h.rd.below hb h.rd.lt,h.o.below hb,jA h.b hb,h.s.below hb h.s.lt,h.l1,Br h.l2 hb.size⟩
theorem vB (id f:Int) (a:OA) (n cap:Nat) (S:Nat->Sl) (y:Sy) (a9:OA) (c9:Nat) (w:Ad) (hT:Rd w (qG n S) (V a n cap)) (hB:NhB n S y) (s0:ndB id f n S=Av\/(1<=f/\f<=3)/\ndB id f n S=Aw/\(¬ y.t=id\/y.t=id/\(¬ (-1<=y.f/\y.f<=3*f)\/(-1<=y.f/\y.f<=3*f)/\(¬ (0<=y.k/\y.k<=2)\/(0<=y.k/\y.k<=2)/\(¬ y.r.size=16\/y.r.size=16/\40<=plN S y.r n))))):Ak prog 10 #[ndV id f (V a n cap),syV y (V a9 y.p.m c9)] w fun e w'=>NhR w w' id f n S 0 (fun _=>syA 0 0 y.r 0) e:=by
 obtain⟨A,HA⟩:=nmH w.1.size;obtain⟨C,HC⟩:=nmH (w.1.size+1);obtain⟨D,HD⟩:=nmH (w.1.size+1+1);obtain⟨w0,d0⟩:=nmH (((w.alloc (J #[id,f,V a n cap] 26)).alloc (J (syC y (V a9 y.p.m c9)) 31)).alloc (J #[(),(),V I 0 0] 26));have RA:=zD d0 HA;have RC:=xL d0 HC;have RD:=xR d0 HD;have r0:=bl3 d0;have y0:=hd r0;have HL:H (w.1.size<=A/\w.1.size<=C/\w.1.size<=D/\A<w0/\C<w0/\D<w0):=⟨by have:=HA.out;omega,by have:=HC.out;omega,by have:=HD.out;omega,RA.out.lt,RC.out.lt,RD.out.lt⟩;have c1:H (A≠C/\A≠D/\C≠D):=⟨by have:=HA.out;have:=HC.out;omega,by have:=HA.out;have:=HD.out;omega,by have:=HC.out;have:=HD.out;omega⟩;have z0:=hd (XI id f a n cap S w0 (hT.below r0) hB.kn (fun i hi=>(hB.k i hi).s));have HB:=hd hB;obtain⟨q,HQ⟩:∃ q:Int,H (3*f+1=q):=⟨_,rfl⟩;obtain⟨q1,g0⟩:∃ q1:Int,H (3*f=q1):=⟨_,rfl⟩;obtain⟨b1,c0⟩:=nnH (ndB id f n S);obtain⟨b3,H3⟩:=nnH (inB y.f (-1) q1);obtain⟨b4,H4⟩:=nnH (inB y.k 0 2);obtain⟨tb,i0⟩:=nnH ((y.t !=id));obtain⟨sb,h0⟩:=nnH (((y.r.size:Int) !=16));obtain⟨pb,n0⟩:=nnH (decide (40<=((plN S y.r n:Nat):Int)));have HF:H (b1=Aw->1<=f/\f<=3):=fun k=>s0.elim (fun h=>by rw[c0.out] at h;rw[h] at k;cases k) (fun h=>h.1)
 have t0:H (b1=Av\/(b1=Aw/\tb=Aw)\/(b1=Aw/\tb=Av/\b3=Av)\/(b1=Aw/\tb=Av/\b3=Aw/\b4=Av)\/(b1=Aw/\tb=Av/\b3=Aw/\b4=Aw/\sb=Aw)\/(b1=Aw/\tb=Av/\b3=Aw/\b4=Aw/\sb=Av/\pb=Aw)):=by
  rcases s0 with h|⟨_,h1,h⟩
  .exact .inl (c0.symm.trans h)
  .have e1:=c0.symm.trans h1;have T2:y.t=id->tb=Av:=fun k=>i0.symm.trans (by simp[k])
   have T3:(-1<=y.f/\y.f<=3*f)->b3=Aw:=fun k=>H3.symm.trans (Bf (by have:=g0.out;omega))
   have T4:(0<=y.k/\y.k<=2)->b4=Aw:=fun k=>H4.symm.trans (Bf k)
   rcases h with h|⟨h2,h|⟨h3,h|⟨h4,h|⟨h5,h⟩⟩⟩⟩
   .exact .inr (.inl ⟨e1,i0.symm.trans (by simpa using h)⟩)
   .exact .inr (.inr (.inl ⟨e1,T2 h2,H3.symm.trans (Bh (by have:=g0.out;omega))⟩))
   .exact .inr (.inr (.inr (.inl ⟨e1,T2 h2,T3 h3,H4.symm.trans (Bh h)⟩)))
   .exact .inr (.inr (.inr (.inr (.inl ⟨e1,T2 h2,T3 h3,T4 h4,h0.symm.trans (by simp;omega)⟩))))
   .exact .inr (.inr (.inr (.inr (.inr ⟨e1,T2 h2,T3 h3,T4 h4,h0.symm.trans (by simp;omega),n0.out.symm.trans (Bf (by omega))⟩))))
 clear hT hB r0 s0;go_enter func10,ntmps10
 go_wp2_with (rw[<-d0.out,<-HD.out,<-HC.out,<-HA.out];refine Bg rfl 26 _ rfl A rfl 26 #[id,f,V a n cap] (0,0) _ ?_ Cg rfl Tryz.infoNd ?_;exact RA)
 refine Ax z0.out ?_;rintro e w1 ⟨g,c,rfl,O1,b1⟩;obtain⟨w2,a0⟩:=nmH (w1.setRow A #[id,f,V g n c]);obtain⟨gs,b0⟩:=nmH w2.1.size;obtain⟨w3,e0⟩:=nmH (w2.alloc (J #[] 31));have R1:=hd (RA.below b1 RA.lt);have K3:H (MhA w w0 w3 A C D id f g n c S y a9 c9 gs):=by
  have b3:Ab w2 w2 w3:=by rw[e0.out];exact(Az _ _).alloc (Ay _) _
  have e2:w2.1.size=w1.1.size:=by rw[a0.out];simp
  have l:=HL.out;have s1:=b1.size;have j1:Row w2 A 26 #[id,f,V g n c]:=by rw[a0.out];exact R1.row
  have k1:Row w2 C 31 (syC y (V a9 y.p.m c9)):=by rw[a0.out];exact(RC.below b1 RC.lt).otherRow (fun e=>c1.1 e.symm)
  have rd2:Row w2 D 26 #[(),(),V I 0 0]:=by rw[a0.out];exact(RD.below b1 RD.lt).otherRow (fun e=>c1.2.1 e.symm)
  have o2:Ow w2 w0 (qG n S) (V g n c) (rng w0 w1.1.size):=by
   rw[a0.out];exact O1.frame fun x hx _=>Cj _ _ _ _ (fun e=>by have h1:w0.1.size<=x:=hx.1;omega)
  have b2:Ab w w w2:=by rw[a0.out];exact jG (jA y0 b1) l.1 _
  refine⟨j1.below b3 j1.lt,k1.below b3 k1.lt,rd2.below b3 rd2.lt,(o2.below b3).mono (fun x hx=>⟨hx.1,?_⟩),jA b2 b3,?_,?_,?_⟩
  .have h1:=hx.2;rw[b0.out];omega
  .rw[e0.out,b0.out];exact Row.new w2 _ _
  .rw[b0.out];omega
  .rw[b0.out];have:=b3.size
   rw[e0.out];simp
 have k0:=hd K3.ra;have m0:=hd K3.rc;have a1:=hd (jA7 id f g n c S y.r w3 K3.o.rd HB.kn);have u3:=m0.cell 3;simp at u3;clear O1 b1;go_wp2_with (first|(refine Ca rfl 26 _ _ rfl A #[id,f,V g n c] rfl rfl 26 #[id,f,V a n cap] ?_ Tryz.infoNd rfl (by simp[Aq]) ?_;exact R1;rw[<-a0.out])|(rw[<-e0.out,<-b0.out];refine Bg rfl 26 _ rfl A rfl 26 #[id,f,V g n c] (0,0) _ ?_ Cg rfl Tryz.infoNd ?_;exact k0))
 refine Ax a1.out ?_;rintro e w4 ⟨rfl,b4⟩;have K4:=hd (K3.below b4);obtain⟨pl,o0⟩:∃ x:Int,H (x=((plN S y.r n:Nat):Int)):=⟨_,rfl⟩;rw[<-o0.out];have q0:=hd K4.ra;have j0:=hd K4.rc;have t6:decide (40<=pl)=pb:=by rw[o0.out];exact n0
 clear u3 b4 a1 z0 K3 k0 m0 R1 e0 a0 b0;have x0:=q0.cell 0;have x1:=q0.cell 1;have x2:=q0.cell 2;have v0:=j0.cell 0;have v1:=j0.cell 1;have v2:=j0.cell 2;have v3:=j0.cell 3;simp at x0 x1 x2 v0 v1 v2 v3;have X0:∀ d os,(grow (redrawn w4 d) os).cell? (Q A 0 I)=_:=fun d os=>cell_regrown x0 d os
 have X1:∀ d os,(grow (redrawn w4 d) os).cell? (Q A 1 I)=_:=fun d os=>cell_regrown x1 d os
 have X2:∀ d os,(grow (redrawn w4 d) os).cell? (Q A 2 I)=_:=fun d os=>cell_regrown x2 d os
 have V0:∀ d os,(grow (redrawn w4 d) os).cell? (Q C 0 I)=_:=fun d os=>cell_regrown v0 d os
 have V1:∀ d os,(grow (redrawn w4 d) os).cell? (Q C 1 I)=_:=fun d os=>cell_regrown v1 d os
 have V2:∀ d os,(grow (redrawn w4 d) os).cell? (Q C 2 I)=_:=fun d os=>cell_regrown v2 d os
 have V3:∀ d os,(grow (redrawn w4 d) os).cell? (Q C 3 I)=_:=fun d os=>cell_regrown v3 d os
 have t2:=i0.out;have t5:=h0.out;have o1:b1=Aw->IntKind.i64.wrap (q-1)=q1:=fun k=>by have:=HF k;have:=HQ.out;have:=g0.out;rw[A8];omega
 have N1:∀ d os,Ak prog 14 #[Ai #[id,f,V g n c]] (grow (redrawn w4 d) os) fun e w'=>e=Ae b1/\∃ p:Regrown,w'=grow (redrawn w4 p.d) p.os:=fun d os=>Calls.regrown_of (by have:=QA id f g n c S (grow (redrawn w4 d) os) (K4.o.rd.below (below_regrown w4 d os)) HB.kn (fun i hi=>(HB.k i hi).ok);rw[c0.out] at this;exact this)
 have N2:b1=Aw->∀ d os,Ak prog 50 #[f] (grow (redrawn w4 d) os) fun e w'=>e=Ae q/\∃ p:Regrown,w'=grow (redrawn w4 p.d) p.os:=fun k d os=>Calls.regrown_of ((vQ f _ (HF k)).mono fun e w' h=>⟨by rw[h.1,HQ.out],by rw[h.2];exact Az _ _⟩)
 have m1:∀ d os,Ak prog 43 #[y.f,(-1:Int),q1] (grow (redrawn w4 d) os) fun e w'=>e=Ae b3/\∃ p:Regrown,w'=grow (redrawn w4 p.d) p.os:=fun d os=>Calls.regrown_of ((jM y.f (-1) q1 _).mono fun e w' h=>⟨by rw[h.1,H3.out],by rw[h.2];exact Az _ _⟩)
 have N4:∀ d os,Ak prog 43 #[y.k,(),(2:Int)] (grow (redrawn w4 d) os) fun e w'=>e=Ae b4/\∃ p:Regrown,w'=grow (redrawn w4 p.d) p.os:=fun d os=>Calls.regrown_of ((jM y.k 0 2 _).mono fun e w' h=>⟨by rw[h.1,H4.out],by rw[h.2];exact Az _ _⟩)
 have H1:=t0.out;clear c0 t0 i0 h0 n0 H3 H4 HF HQ g0 o0;go_wp2_with fail
 rcases H1 with rfl|⟨rfl,rfl⟩|⟨rfl,rfl,rfl⟩|⟨rfl,rfl,rfl,rfl⟩|⟨rfl,rfl,rfl,rfl,rfl⟩|⟨rfl,rfl,rfl,rfl,rfl,rfl⟩;all_goals
  try have u1:=o1 rfl
  refine wp_region_quiet_below (by kernel_rfl) (by kernel_rfl) ?_;repeat (go_big_quiet_step (first|(with_reducible exact N1 _ _)|(with_reducible exact N2 rfl _ _)|(with_reducible exact m1 _ _)|(with_reducible exact N4 _ _)))
  refine Ct ?_;intro _ r1;obtain⟨⟨dq,i1⟩,g1⟩:=r1;obtain⟨w5,u0⟩:=nmH (grow (redrawn w4 dq) i1);subst g1;have K5:H (MhA w w0 w5 A C D id f g n c S y a9 c9 gs):=by rw[u0.out];exact K4.below (below_regrown w4 dq i1)
  have n1:=hd K5.ra;have f1:=hd K5.rd;obtain⟨w6,f0⟩:=nmH (w5.setRow D #[id,f,V g n c]);have R6:=rr f0 f1;have KF:H (NhR w w6 id f n S 0 (fun _=>syA 0 0 y.r 0) (Ae (Ah #[ndV id f (V g n c),V gs 0 0]))):=by
   have hD:=HL.2.2.2.2.2;have t1:=y0.size;refine⟨_,_,_,_,rfl,?_,fun W' _ _=>jB1 W' _ _,?_,?_⟩
   .rw[f0.out];exact Rf.of_ow (K5.o.frame (fun x hx _=>Cj _ _ _ _ (fun e=>by have h1:w0.1.size<=x:=hx.1;omega))) (fun x hx k=>by have h1:w0.1.size<=x:=hx.1;have h2:x<w.1.size:=k;omega)
   .rw[f0.out];exact jG K5.b HL.2.2.1 _
   .rw[f0.out];exact⟨_,(K5.o.frame (fun x hx _=>Cj _ _ _ _ (fun e=>by have h1:w0.1.size<=x:=hx.1;omega))).base t1⟩
  clear x0 x1 x2 v0 v1 v2 v3 X0 X1 X2 V0 V1 V2 V3;rw[<-u0.out];go_wp2_with (first|(refine Bg rfl 26 _ rfl A rfl 26 #[id,f,V g n c] (0,0) _ ?_ Cg rfl Tryz.infoNd ?_;exact n1)|(refine Ca rfl 26 _ _ rfl D #[id,f,V g n c] rfl rfl 26 #[(),(),V I 0 0] ?_ Tryz.infoNd rfl (by simp[Aq]) ?_;exact f1;rw[<-f0.out]))
  refine B7 (v:=Ah #[ndV id f (V g n c),V gs 0 0]) (by
   have p0:=R6.cell 0;have p1:=R6.cell 1;have p2:=R6.cell 2;simp at p0 p1 p2;simp[results,results10,go_sem,p0,p1,p2]) rfl KF
end Go.Proofs.YtcaejlalnjnifaaGreat
namespace Go.Proofs.YtcaejlalnjnifaaGreat
theorem XD (Hb:Nat) (x0 x2 x3 x4:Aj) (sa:OA) (n c:Nat) (i:Int) (w:Ad) (h:Row w Hb 179 #[x0,V sa n c,x2,x3,x4]):CS 166 #[Af Hb,i] w (decide (0<=i/\i<n)):=by
 have x1:=h.cell 1;simp at x1;by_cases h0:i≥0
 .by_cases h1:i<(n:Int)
  .rw[Bf ⟨h0,h1⟩];go_enter func166,ntmps166
   go_wp2
   go_ret
   exact⟨rfl,rfl⟩
  .rw[Bh (fun h=>h1 h.2)];go_enter func166,ntmps166
   go_wp2
   go_ret
   exact⟨rfl,rfl⟩
 .rw[Bh (fun h=>h0 h.1)];go_enter func166,ntmps166
  go_wp2
  go_ret
  exact⟨rfl,rfl⟩
theorem xF (Hb:Nat) (x0 x1 x2 x3:Aj) (sa:OA) (n c:Nat) (i:Int) (w:Ad) (h:Row w Hb 179 #[x0,x1,x2,x3,V sa n c]):CS 133 #[Af Hb,i] w (decide (0<=i/\i<n)):=by
 have x4:=h.cell 4;simp at x4;by_cases h0:i≥0
 .by_cases h1:i<(n:Int)
  .rw[Bf ⟨h0,h1⟩];go_enter func133,ntmps133
   go_wp2
   go_ret
   exact⟨rfl,rfl⟩
  .rw[Bh (fun h=>h1 h.2)];go_enter func133,ntmps133
   go_wp2
   go_ret
   exact⟨rfl,rfl⟩
 .rw[Bh (fun h=>h0 h.1)];go_enter func133,ntmps133
  go_wp2
  go_ret
  exact⟨rfl,rfl⟩
theorem XC (Hb b:Nat) (f:Int) (zs:List Int) (v1 v2 v4:Aj) (i:Int) (w:Ad) (h:Row w Hb 179 #[f,v1,v2,.map (M b),v4]) (hm:LM w b f zs):Ak prog 167 #[Af Hb,i] w fun e w'=>e=Ae (decide (i∈zs))/\w'=w.drew:=by
 have x0:=h.cell 0;have x3:=h.cell 3;simp at x0 x3;obtain⟨c,hc,a0⟩:=jPj (w:=w.drew) (hm.below (jD w)) i;simp only[bk] at hc;by_cases hx:i∈zs
 .have b0:=a0.2 hx;rw[Bf hx];clear hm a0 hx h;go_enter func167,ntmps167
  go_wp2
  go_region
  go_wp2
  go_ret
  exact⟨rfl,rfl⟩
 .have b0:¬ (c>0):=fun h=>hx (a0.1 h)
  rw[Bh hx];clear hm a0 hx h;go_enter func167,ntmps167
  go_wp2
  go_region
  go_wp2
  go_ret
  exact⟨D8 (fun b=>Ending.returned (.bool b)) (Bh (Int.not_lt.2 b0)),rfl⟩
end Go.Proofs.YtcaejlalnjnifaaGreat
