import Derived.Test.YtcaejlalnjnifaaGreatR24
import Derived.Test.YtcaejlalnjnifaaGreatR23
set_option maxHeartbeats 8000000
set_option maxRecDepth 2000
open Go.Value renaming slice->V,pointer->Af,tuple->Ah,agg->Ai,oneCell'->Aq
open Option renaming none->I,some->M
open Go.RowKit renaming Hid->H,Below->Ab
open Go.Addr renaming mk->Q
open Go renaming undef->O,World->Ad,Value->Aj,Calls->Ak,Addr->Al,maxLen->Au
open Go.Obj renaming cells->J
open Go.Ending renaming returned->Ae
open ByteArray renaming empty->Ap
open Bool renaming false->Av,true->Aw
open Go.Proofs.Tryz
open Go.ChangeShapes Go.WideShapes Go.ChangeAt Go.RowKit
namespace Go.Proofs.YtcaejlalnjnifaaGreat
section
theorem Tryz.infoF3:(Tryz.prog.info? 152).map (·.size)=M 3:=by kernel_rfl
def HrX (w W:Ad) (B Hb:Nat) (id f:Int) (g n cap p:Nat) (S:Nat->Sl) (m:Nat) (Y:Nat->Sy) (F1 F2:Nat->Prop):Prop:=
 ∃ sa sc F1' F2',Hr W B Hb id f g n cap p S sa m sc Y F1' F2'/\Trn w W (fun x=>x=Hb\/F1 x\/F2 x)/\(∀ x,F1' x->F1 x\/w.1.size<=x)/\∀ x,F2' x->F2 x\/w.1.size<=x
def jSq (n:Nat) (fn:Nat) (arg:Aj) (B Hb:Nat) (id f:Int) (p:Nat) (S S':Nat->Sl) (m m':Nat) (Y Y':Nat->Sy) (wE:Ad):Prop:=
 ∀ W g cap sa sc F1 F2,Ab B wE W->Hr W B Hb id f g n cap p S sa m sc Y F1 F2->Ak prog fn #[Af Hb,arg] W fun e w'=>e=Ae (Ah #[])/\HrX W w' B Hb id f g n cap p S' m' Y' F1 F2
theorem Trn.join {w w2 w3:Ad} {F G:Nat->Prop} (t1:Trn w w2 F) (t2:Trn w2 w3 G) (hG:∀ x,G x->F x\/w.1.size<=x):Trn w w3 F:=by
 refine⟨t2.os.trans t1.os,t2.tape.trans t1.tape,t2.output.trans t1.output,By t1.size t2.size,fun j hj hn=>?_⟩;refine(t2.block j (Bu hj t1.size) (fun k=>?_)).trans (t1.block j hj hn);rcases hG j k with k|k
 .exact hn k
 .omega
def jFu (T:TypeId) (xx:List Aj) (w W:Ad) (B Nb:Nat) (id f:Int) (n:Nat) (S:Nat->Sl) (m:Nat) (Y:Nat->Sy) (F1:Nat->Prop) (v:Aj):Prop:=
 ∃ g cap sa sc F1' F2',v=V sa m sc/\NwT T xx W B Nb id f g n cap S F1'/\Ow W B (qI m Y) (V sa m sc) F2'/\(∀ x,F1' x->¬ F2' x)/\¬ F2' Nb/\Trn w W (fun x=>x=Nb\/F1 x)/\(∀ x,F1' x->F1 x\/w.1.size<=x)/\∀ x,F2' x->w.1.size<=x/\x<W.1.size
theorem xX {T:TypeId} {xx:List Aj} {k9:Int} {j0:Nat} (id f:Int) (B Nb g n cap:Nat) (S S1 S2:Nat->Sl) (y:Sy) (a9:OA) (c9 m1 m2:Nat) (Y0 Y1 Y2:Nat->Sy) (F1:Nat->Prop) (w:Ad) (h:NwT T xx w B Nb id f g n cap S F1) (hn:n<=1048576) (hr:y.r.size<=1048576) (hk:y.k=k9) (hq:(k9=0/\j0=108)\/(k9=1/\j0=109)\/(k9=2/\j0=110)) (wE:Ad) (hE:Ab B wE w) (s1:∀ Hb,jSq (hrN S y.r n) j0 (syV y (V a9 y.p.m c9)) B Hb id f (plN S y.r n) (slF S y.r n) S1 0 m1 Y0 Y1 wE) (s2:∀ Hb,jSq (hrN S y.r n) 112 k9 B Hb id f (plN S y.r n) S1 S2 m1 m2 Y1 Y2 wE):Ak prog 47 #[Af Nb,syV y (V a9 y.p.m c9)] w fun e w'=>∃ v,e=Ae v/\jFu T xx w w' B Nb id f (hrN S y.r n) S2 m2 Y2 F1 v:=by
 obtain⟨A,HA⟩:=nmH w.1.size;obtain⟨R,HR⟩:=nmH (w.1.size+1);obtain⟨p,b1⟩:=nnH (plN S y.r n);obtain⟨n',n0⟩:=nnH (hrN S y.r n);obtain⟨wn,p0⟩:=nmH ((w.alloc (J (syC y (V a9 y.p.m c9)) 31)).alloc (J #[.nilFunc,.nilFunc,.nilFunc] 152));have g2:=(xS p0 HA).out;have i2:=zR p0 HR;have n2:=bl2 p0;obtain⟨w0,o0⟩:=nmH (wn.setRow R #[.func (.func 108) #[] #[],.func (.func 109) #[] #[],.func (.func 110) #[] #[]]);have RA:H (Row w0 A 31 (syC y (V a9 y.p.m c9))):=by show Row _ _ _ _;rw[o0.out];exact g2.otherRow (by have:=HA.out;have:=HR.out;omega)
 have RR:=rr o0 i2;have j1:Ab w w w0:=by rw[o0.out];exact jF n2 (by have:=HR.out;omega) _
 have y1:=hd j1;have HL:H (w.1.size<=A/\A<w0/\R<w0/\w.1.size<=R/\Nb<w/\∀ x,F1 x->x<w.1.size):=⟨by have:=HA.out;omega,RA.out.lt,RR.out.lt,by have:=HR.out;omega,h.r.lt,fun x k=>(h.l1 x k).2⟩;have KE:H (Ab B wE w/\B<=Nb/\(∀ x,F1 x->B<=x)/\B<=w):=⟨hE,h.b.1,fun x k=>(h.l1 x k).1,h.b.2⟩;have a1:=hd hk;have HQ:H _:=hq;have g3:=hd h.h1;have a2:H _:=jFk id f B Nb g n cap S y.r F1 w0 (h.below j1) hn hr;rw[b1.out,n0.out] at s2;rw[n0.out];have i3:H (∀ Hb,jSq n' j0 (syV y (V a9 y.p.m c9)) B Hb id f p (slF S y.r n) S1 0 m1 Y0 Y1 wE):=by rw[<-b1.out,<-n0.out];exact s1
 have j3:H (∀ Hb,jSq n' 112 k9 B Hb id f p S1 S2 m1 m2 Y1 Y2 wE):=s2;rw[b1.out,n0.out] at a2;have c3:=RA.cell 3;simp at c3;clear h j1 hn hr s1 s2 g2 n2 hE hk hq;go_enter func47,ntmps47
 go_wp2_with (rw[<-p0.out,<-HR.out,<-HA.out];refine Bw rfl 152 _ _ rfl R #[.func (.func 108) #[] #[],.func (.func 109) #[] #[],.func (.func 110) #[] #[]] rfl rfl 152 #[.nilFunc,.nilFunc,.nilFunc] ?_ Tryz.infoF3 rfl (by simp[Aq]) ?_;exact i2;rw[<-o0.out])
 refine Ax a2.out ?_;rintro e w1 ⟨g1,a0,b0,rfl,c0,t1,i1⟩;have K1:H (NwT T xx w1 B Nb id f g1 n' a0 (slF S y.r n) b0/\Trn w0 w1 (fun x=>x=Nb\/F1 x)/\∀ x,b0 x->F1 x\/w0.1.size<=x):=⟨c0,t1,i1⟩;have k3:H _:=c0.r.mid;-- the hearing's own block and the empty list of what is said
 obtain⟨gs,e0⟩:=nmH w1.1.size;obtain⟨Hb,v1⟩:=nmH (gs+1);have i0:Hb=w1.1.size+1:=by rw[v1.out,e0.out]
 obtain⟨w2,g0⟩:=nmH ((w1.alloc (J #[] 31)).alloc (J (hrC id f g1 n' a0 p (V gs 0 0)) 156));have h0:=bl2 g0;have RH:Row w2 Hb 156 (hrC id f g1 n' a0 p (V gs 0 0)):=by
  rw[g0.out,i0];have:=Row.new (w1.alloc (J #[] 31)) (hrC id f g1 n' a0 p (V gs 0 0)) 156
  simpa using this
 have O2:Ow w2 B (qI 0 Y0) (V gs 0 0) (fun x=>x=gs):=by
  have o1:Ow (w1.alloc (J #[] 31)) B (qI 0 Y0) (V gs 0 0) (fun x=>x=gs):=by
   refine⟨_,0,fun _ _=>O,fun _ _ _=>False,rfl,?_,⟨fun x e=>by cases e;rfl,fun _ _ _ hi=>Bo hi (Bk _),fun _ _ _ hi=>Bo hi (Bk _),fun _ _ _ _ _ hi=>Bo hi (Bk _)⟩,fun _ _ hi=>Bo hi (Bk _)⟩;have:=Cc (e:=31) (size:=10) (base:=B) w1 #[] 0 c0.b.2 (by unfold Au;omega) (by simp)
   rw[e0.out];simpa [cL] using this
  rw[g0.out];exact o1.below ((Az _ _).alloc (Ay _) _)
 have y0:w2.1.size=w1.1.size+2:=by rw[g0.out];simp
 have z0:=t1.size;have H2:H (Hr w2 B Hb id f g1 n' a0 p (slF S y.r n) gs 0 0 Y0 b0 (fun x=>x=gs)):=by
  have e1:=e0.out;have e2:=i0;have q3:=c0.b.2;exact⟨RH,c0.o.below h0,O2,fun x k1 k2=>by have:=c0.l1 x k1;omega,fun k=>by have:=c0.l1 Hb k;omega,fun k=>by omega,⟨by omega,by omega⟩,fun x k=>by have:=c0.l1 x k;omega,fun x k=>by omega⟩
 have f3:=hd (c0.below h0);have KL:H (gs=w1.1.size/\Hb=w1.1.size+1/\w2.1.size=w1.1.size+2/\w0.1.size<=w1.1.size):=⟨e0,i0,y0,z0⟩;have f2:=hd (((Trn.ofBelow _ y1).trans t1).trans (Trn.ofBelow _ h0));have d0:∀ W,Trn w2 W (fun x=>x=Hb\/b0 x\/x=gs)->∀ k t cs,Row w0 k t cs->w.1.size<=k->Row W k t cs:=fun W hW k t cs hr hk=>by
  have n3:=hr.lt;have r1:Row w1 k t cs:=(t1.block k n3 (fun q=>by
   rcases q with q|q
   .have:=HL.2.2.2.2.1;omega
   .have:=HL.2.2.2.2.2 k q;omega)).trans hr
  have r2:=r1.below h0 r1.lt;refine(hW.block k r2.lt (fun q=>?_)).trans r2;have e1:=e0.out;have e2:=i0;have l1:=r1.lt;rcases q with q|q|q
  .omega
  .rcases i1 k q with q|q
   .have:=HL.2.2.2.2.2 k q;omega
   .omega
  .omega
 have x1:H (∀ W,Trn w2 W (fun x=>x=Hb\/b0 x\/x=gs)->Row W A 31 (syC y (V a9 y.p.m c9))/\Row W R 152 #[.func (.func 108) #[] #[],.func (.func 109) #[] #[],.func (.func 110) #[] #[]]):=fun W hW=>⟨d0 W hW A _ _ RA HL.1,d0 W hW R _ _ RR HL.2.2.2.1⟩
 have f0:H (Ab B wE w2.drew):=by
  have p3:=f2.trans (Trn.drew w2 _);exact KE.1.trans (p3.below (fun x k=>by rcases k with k|k;rw[k];exact KE.out.2.1;exact KE.2.2.1 x k) KE.2.2.2)
 have e9:syV y (V a9 y.p.m c9)=Ai #[k9,y.f,y.t,y.r,y.p.r,y.p.k,y.p.n,y.p.i,y.p.b,V a9 y.p.m c9]:=by
  show Ai #[y.k,y.f,y.t,y.r,y.p.r,y.p.k,y.p.n,y.p.i,y.p.b,V a9 y.p.m c9]=_;rw[a1.out]
 have f1:=i3 Hb w2.drew g1 a0 gs 0 b0 (fun x=>x=gs) f0 (H2.below (jD w2));rw[e9] at f1;have a3:H _:=f1;clear f1 e9;obtain⟨n1,o2⟩:=x1 w2 (Trn.refl _ _);obtain⟨u0,u1,u2,u3,u4,u5⟩:=n1.c6 0 1 2 3 4 5;obtain⟨u6,u7,u8,u9⟩:=n1.c4 6 7 8 9;obtain⟨uR,y2,z2⟩:=o2.c3 0 1 2;simp at u0 u1 u2 u3 u4 u5 u6 u7 u8 u9 uR y2 z2;rw[a1.out] at u0;clear c0 t1 i1 h0 RH O2 y0 z0 d0 c3 i0 n1 o2;go_upto_region 4 with (refine Bv rfl 26 _ rfl Nb 0 rfl [id,f,V g1 n' a0] _ ?_ Ch rfl Tryz.infoNd ?_;exact k3)
 rw[<-e0.out,<-v1.out,<-g0.out];rcases HQ.out with ⟨rfl,rfl⟩|⟨rfl,rfl⟩|⟨rfl,rfl⟩;all_goals
  go_region_with (((first|go_at_call 108|go_at_call 109|go_at_call 110);refine Ax a3.out ?_;rintro e w3 ⟨rfl,p2,t2,k0,m0,h3,t3,r0,t0⟩;have K3:H (Hr w3 B Hb id f g1 n' a0 p S1 p2 m1 t2 Y1 k0 m0/\Trn w2 w3 (fun x=>x=Hb\/b0 x\/x=gs)/\(∀ x,k0 x->b0 x\/w2.1.size<=x)/\∀ x,m0 x->x=gs\/w2.1.size<=x):=⟨h3,(Trn.drew w2 _).trans t3,r0,t0⟩;clear h3 t3 r0 t0))
 all_goals
  have v0:=(x1 w3 K3.2.1).1.cell 0;simp at v0;rw[a1.out] at v0;have z1:H (Ab B wE w3):=by
   have e1:=KL.out;have o3:=H2.b.2;have b2:Ab B wE w2:=⟨f0.os,f0.tape,f0.output,f0.size,f0.block⟩;exact b2.trans (K3.2.1.below (fun x k=>by
    rcases k with k|k|k
    .rw[k];exact H2.b.1
    .exact(K1.1.l1 x k).1
    .have:=K1.1.b.2;omega) o3)
  have b3:H _:=j3 Hb w3 g1 a0 p2 t2 k0 m0 z1 K3.1;clear u0 u1 u2 u3 u4 u5 u6 u7 u8 u9 uR y2 z2;go_wp2_with fail
  refine Ax b3.out ?_;rintro e w4 ⟨rfl,q2,v2,p1,q1,h4,t4,s0,x0⟩;have z4:=h4.r.cell 4;simp at z4;have KF:H (jFu T xx w w4 B Nb id f n' S2 m2 Y2 F1 (V q2 m2 v2)):=by
   obtain⟨e1,e2,e3,e4⟩:=KL.out;have s3:=y1.size;have v3:=K3.2.1.size;have x3:=t4.size;have r3:=HL.2.2.2.2.1;have l3:∀ x,k0 x->F1 x\/w0.1.size<=x:=fun x k=>by
    rcases K3.out.2.2.1 x k with k|k
    .exact K1.2.2 x k
    .exact .inr (by omega)
   have m3:∀ x,m0 x->w0.1.size<=x:=fun x k=>by
    rcases K3.out.2.2.2 x k with k|k <;> omega
   have x2:Trn w2 w4 (fun x=>x=Hb\/b0 x\/x=gs):=K3.2.1.join t4 (fun x k=>by
    rcases k with k|k|k
    .exact .inl (.inl k)
    .rcases K3.out.2.2.1 x k with k|k
     .exact .inl (.inr (.inl k))
     .exact .inr k
    .rcases K3.out.2.2.2 x k with k|k
     .exact .inl (.inr (.inr k))
     .exact .inr k)
   have c1:∀ x,p1 x->F1 x\/w0.1.size<=x:=fun x k=>by
    rcases s0 x k with k|k
    .exact l3 x k
    .exact .inr (by omega)
   have j2:∀ x,q1 x->w0.1.size<=x:=fun x k=>by
    rcases x0 x k with k|k
    .exact m3 x k
    .omega
   have nF:=g3.out;have q0:=f3.out;have nN:¬ (Nb=Hb\/b0 Nb\/Nb=gs):=fun k=>by
    rcases k with k|k|k
    .omega
    .exact q0.h1 k
    .omega
   refine⟨g1,a0,q2,v2,p1,q1,rfl,⟨(x2.block Nb q0.r.lt nN).trans q0.r,h4.o,fun k=>?_,⟨q0.b.1,h4.b.2⟩,fun x k=>⟨?_,h4.l1 x k⟩⟩,h4.y,h4.d,fun k=>?_,f2.join x2 (fun x k=>?_),fun x k=>?_,fun x k=>⟨?_,h4.l2 x k⟩⟩
   .rcases c1 Nb k with k|k
    .exact nF k
    .omega
   .rcases c1 x k with k|k
    .exact KE.2.2.1 x k
    .have:=KE.2.2.2;omega
   .have:=j2 Nb k;omega
   .rcases k with k|k|k
    .exact .inr (by omega)
    .rcases K1.out.2.2 x k with k|k
     .exact .inl (.inr k)
     .exact .inr (by omega)
    .exact .inr (by omega)
   .rcases c1 x k with k|k
    .exact .inl k
    .exact .inr (by omega)
   .have:=j2 x k;omega
  clear h4 t4 s0 x0;go_wp2
  go_ret
  exact⟨_,rfl,KF⟩
def zH (f:Int):Nat:=(3*f+1).toNat
theorem vM {f:Int} (h:1<=f/\f<=3):(zH f:Int)=3*f+1:=by unfold zH;omega
def hvA (S:Nat->Sl) (p:Nat) (y:Sy):Nat->Sl:=if y.k=1 then jCm S p (xM (S p).ze y.f) else jEk S p (xM (S p).zr y.f)
def hvT (f:Int) (S:Nat->Sl) (p:Nat) (y:Sy):Int:=stI f (hvA S p y p).ze.length (hvA S p y p).zr.length
def hvB (f:Int) (S:Nat->Sl) (p:Nat) (y:Sy):Nat->Sl:=if y.k=1 then hvA S p y else XY (hvA S p y) p ((hvA S p y p).o || decide (2<=hvT f S p y))
def hvR (f:Int) (S:Nat->Sl) (p:Nat) (y:Sy):Prop:=1<=hvT f S p y/\(hvA S p y p).d=Av
def hvE (id f:Int) (S:Nat->Sl) (p:Nat) (y:Sy):Prop:=(S p).e=Av/\vU y.r id f y.p.r y.p.k y.p.n y.p.i y.p.b y.p.m y.p.S=Aw
open Classical in
noncomputable def hvS (id f:Int) (S:Nat->Sl) (p:Nat) (y:Sy):Nat->Sl:=if y.k=0 then (if hvE id f S p y then xJ S p y.p else S) else if hvR f S p y then jAr (hvB f S p y) p else hvB f S p y
open Classical in
noncomputable def hvM (id f:Int) (S:Nat->Sl) (p:Nat) (y:Sy):Nat:=if y.k=0 then (if hvE id f S p y then zH f else 0) else if hvR f S p y then zH f else 0
def hvY (id:Int) (S:Nat->Sl) (p:Nat) (y:Sy):Nat->Sy:=syM (fun _=>syA 0 0 (S p).r 0) 0 (if y.k=0 then 1 else 2) id (S p).r
theorem jGa (id:Int) (S:Nat->Sl) (p:Nat) (y:Sy) (i:Nat):hvY id S p y i=syA (if y.k=0 then 1 else 2) id (S p).r i:=by unfold hvY syM;simp
theorem jKs (S:Nat->Sl) (r:BA) (n:Nat):plN S r n<hrN S r n:=by
 unfold plN hrN;cases e:plc S r n with
 | none=>simp
 | some x=>
  obtain⟨_,h,_,_⟩:=xC e;simpa using h
theorem HrX.of {w W:Ad} {B Hb:Nat} {id f:Int} {g n cap p:Nat} {S:Nat->Sl} {sa:OA} {m sc:Nat} {Y:Nat->Sy} {F1 F2:Nat->Prop} (h:Hr W B Hb id f g n cap p S sa m sc Y F1 F2) (t:Trn w W (fun x=>x=Hb\/F1 x\/F2 x)):HrX w W B Hb id f g n cap p S m Y F1 F2:=⟨sa,sc,F1,F2,h,t,fun _ k=>.inl k,fun _ k=>.inl k⟩
structure HvK (S:Nat->Sl) (p:Nat) (y:Sy):Prop where
 ze:(S p).ze.length<=1048575
 zr:(S p).zr.length<=1048575
 se:(S p).ze.Pairwise (.<=.)
 sr:(S p).zr.Pairwise (.<=.)
 r:(S p).r.size<=1048576
 m:y.p.m<=1048576
 pr:y.p.r.size<=1048576
 pb:y.p.b.size<=1048576
 ps:∀ i,i<y.p.m->(y.p.S i).size<=1048576
theorem jMh {T:TypeId} {xx:List Aj} (id f:Int) (B Nb g n cap:Nat) (S:Nat->Sl) (y:Sy) (a9:OA) (c9:Nat) (F1:Nat->Prop) (w wE:Ad) (h:NwT T xx w B Nb id f g n cap S F1) (hn:n<=1048576) (hr:y.r.size<=1048576) (hk:0<=y.k/\y.k<=2) (hf:1<=f/\f<=3) (hE:Ab B wE w) (hT:∀ W,Ab B wE W->jL W a9 y.p.m y.p.S) (hK:HvK (slF S y.r n) (plN S y.r n) y):Ak prog 47 #[Af Nb,syV y (V a9 y.p.m c9)] w fun e w'=>∃ v,e=Ae v/\jFu T xx w w' B Nb id f (hrN S y.r n) (hvS id f (slF S y.r n) (plN S y.r n) y) (hvM id f (slF S y.r n) (plN S y.r n) y) (hvY id (slF S y.r n) (plN S y.r n) y) F1 v:=by
 have hp:=jKs S y.r n;have h3:=vM hf;obtain⟨S0,b0⟩:∃ x,x=slF S y.r n:=⟨_,rfl⟩;obtain⟨p,HP⟩:∃ x,x=plN S y.r n:=⟨_,rfl⟩;rw[<-b0,<-HP] at hK |-;rw[<-HP] at hp;by_cases k0:y.k=0
 .have eY:hvY id S0 p y=syM (fun _=>syA 0 0 (S0 p).r 0) 0 1 id (S0 p).r:=by unfold hvY;rw[A6 k0]
  rw[eY];by_cases he:hvE id f S0 p y
  have eS:hvS id f S0 p y=xJ S0 p y.p:=by unfold hvS;rw[A6 k0,A6 he]
  have eM:hvM id f S0 p y=0+zH f:=by unfold hvM;rw[A6 k0,A6 he];omega
  rw[eS,eM];refine xX id f B Nb g n cap S (xJ S0 p y.p) (xJ S0 p y.p) y a9 c9 (0+zH f) (0+zH f) (fun _=>syA 0 0 (S0 p).r 0) (syM (fun _=>syA 0 0 (S0 p).r 0) 0 1 id (S0 p).r) _ F1 w h hn hr k0 (.inl ⟨rfl,rfl⟩) wE hE ?_ ?_
  .intro Hb W g cap sa sc F1 F2 hW hH;rw[<-b0,<-HP] at hH;rw[<-HP];exact jEs id f B Hb g _ cap p S0 sa 0 sc _ F1 F2 y a9 c9 (zH f) W hH hf hp (hT W hW) hK.m hK.pr hK.pb hK.ps he.1 he.2 (by omega) hK.r h3
  rotate_left;have eS:hvS id f S0 p y=S0:=by unfold hvS;rw[A6 k0,A5 he]
  have eM:hvM id f S0 p y=0:=by unfold hvM;rw[A6 k0,A5 he]
  rw[eS,eM];have c0:(S0 p).e=Aw\/vU y.r id f y.p.r y.p.k y.p.n y.p.i y.p.b y.p.m y.p.S=Av:=by
   unfold hvE at he;cases e1:(S0 p).e with
   | true=>exact .inl rfl
   | false=>
    right
    cases e2:vU y.r id f y.p.r y.p.k y.p.n y.p.i y.p.b y.p.m y.p.S with
    | false=>rfl
    | true=>exact Bo ⟨e1,e2⟩ he
  refine xX id f B Nb g n cap S S0 S0 y a9 c9 0 0 (syM (fun _=>syA 0 0 (S0 p).r 0) 0 1 id (S0 p).r) (syM (fun _=>syA 0 0 (S0 p).r 0) 0 1 id (S0 p).r) _ F1 w h hn hr k0 (.inl ⟨rfl,rfl⟩) wE hE ?_ ?_
  .intro Hb W g cap sa sc F1 F2 hW hH;rw[<-b0,<-HP] at hH;rw[<-HP];refine(jEr id f B Hb g _ cap p S0 sa 0 sc _ F1 F2 y a9 c9 W hH hf hp (hT W hW) hK.m (fun i hi=>By (hK.ps i hi) (by unfold Au;omega)) c0).mono ?_;rintro e w' ⟨rfl,hh,t⟩;exact⟨rfl,HrX.of hh t⟩
  rotate_left;all_goals
   .intro Hb W g cap sa sc F1 F2 _ hH;rw[<-HP] at hH |-;refine(jFj id f B Hb g _ cap p _ sa _ sc _ F1 F2 _ W hH hf hp rfl).mono ?_;rintro e w' ⟨rfl,hh,t⟩;exact⟨rfl,HrX.of hh t⟩
 .have eY:hvY id S0 p y=syM (fun _=>syA 0 0 (S0 p).r 0) 0 2 id (S0 p).r:=by unfold hvY;rw[A5 k0]
  rw[eY];by_cases k1:y.k=1
  .have eA:hvA S0 p y=jCm S0 p (xM (S0 p).ze y.f):=by unfold hvA;rw[A6 k1]
   have eB:hvB f S0 p y=hvA S0 p y:=by unfold hvB;rw[A6 k1]
   have eR:(hvA S0 p y p).r=(S0 p).r:=by rw[eA];unfold jCm;simp
   have hz:(S0 p).ze.length<=1048576:=by have:=hK.ze;omega
   by_cases hR:hvR f S0 p y
   .have eS:hvS id f S0 p y=jAr (hvB f S0 p y) p:=by unfold hvS;rw[A5 k0,A6 hR]
    have eM:hvM id f S0 p y=0+zH f:=by unfold hvM;rw[A5 k0,A6 hR];omega
    rw[eS,eM,eB];refine xX id f B Nb g n cap S (hvA S0 p y) _ y a9 c9 0 (0+zH f) (fun _=>syA 0 0 (S0 p).r 0) (fun _=>syA 0 0 (S0 p).r 0) (syM (fun _=>syA 0 0 (S0 p).r 0) 0 2 id (S0 p).r) F1 w h hn hr k1 (.inr (.inl ⟨rfl,rfl⟩)) wE hE ?_ ?_
    .intro Hb W g cap sa sc F1 F2 _ hH;rw[<-b0,<-HP] at hH;rw[<-HP,eA];refine(XS id f B Hb g _ cap p S0 sa 0 sc _ F1 F2 y (V a9 y.p.m c9) W hH hp hz hK.se).mono ?_;rintro e w' ⟨rfl,a0,hh,t,hF⟩;exact⟨rfl,sa,sc,a0,F2,hh,t,hF,fun _ k=>.inl k⟩
    .intro Hb W g cap sa sc F1 F2 _ hH;rw[<-HP] at hH |-;have:=jD3 id f B Hb g _ cap p (hvA S0 p y) sa 0 sc (fun _=>syA 0 0 (S0 p).r 0) F1 F2 (zH f) _ W hH hf hp rfl hR.1 hR.2 (by omega) (by rw[eR];exact hK.r) h3
     rw[eR] at this;exact this
   .have eS:hvS id f S0 p y=hvB f S0 p y:=by unfold hvS;rw[A5 k0,A5 hR]
    have eM:hvM id f S0 p y=0:=by unfold hvM;rw[A5 k0,A5 hR]
    rw[eS,eM,eB];have c0:hvT f S0 p y<1\/(hvA S0 p y p).d=Aw:=by
     by_cases q:hvT f S0 p y<1
     .exact .inl q
     .right
      cases e1:(hvA S0 p y p).d with
      | true=>rfl
      | false=>exact Bo ⟨by omega,e1⟩ hR
    refine xX id f B Nb g n cap S (hvA S0 p y) _ y a9 c9 0 0 (syM (fun _=>syA 0 0 (S0 p).r 0) 0 2 id (S0 p).r) (syM (fun _=>syA 0 0 (S0 p).r 0) 0 2 id (S0 p).r) _ F1 w h hn hr k1 (.inr (.inl ⟨rfl,rfl⟩)) wE hE ?_ ?_
    .intro Hb W g cap sa sc F1 F2 _ hH;rw[<-b0,<-HP] at hH;rw[<-HP,eA];refine(XS id f B Hb g _ cap p S0 sa 0 sc _ F1 F2 y (V a9 y.p.m c9) W hH hp hz hK.se).mono ?_;rintro e w' ⟨rfl,a0,hh,t,hF⟩;exact⟨rfl,sa,sc,a0,F2,hh,t,hF,fun _ k=>.inl k⟩
    .intro Hb W g cap sa sc F1 F2 _ hH;rw[<-HP] at hH |-;refine(jD2 id f B Hb g _ cap p (hvA S0 p y) sa 0 sc _ F1 F2 _ W hH hf hp rfl c0).mono ?_;rintro e w' ⟨rfl,hh,t⟩;exact⟨rfl,HrX.of hh t⟩
  .have k2:y.k=2:=by omega
   have eA:hvA S0 p y=jEk S0 p (xM (S0 p).zr y.f):=by unfold hvA;rw[A5 k1]
   have eB:hvB f S0 p y=XY (hvA S0 p y) p ((hvA S0 p y p).o || decide (2<=hvT f S0 p y)):=by unfold hvB;rw[A5 k1]
   have eR:(hvA S0 p y p).r=(S0 p).r:=by rw[eA];unfold jEk;simp
   have hz:(S0 p).zr.length<=1048576:=by have:=hK.zr;omega
   by_cases hR:hvR f S0 p y
   .have eS:hvS id f S0 p y=jAr (hvB f S0 p y) p:=by unfold hvS;rw[A5 k0,A6 hR]
    have eM:hvM id f S0 p y=0+zH f:=by unfold hvM;rw[A5 k0,A6 hR];omega
    rw[eS,eM,eB];refine xX id f B Nb g n cap S (hvA S0 p y) _ y a9 c9 0 (0+zH f) (fun _=>syA 0 0 (S0 p).r 0) (fun _=>syA 0 0 (S0 p).r 0) (syM (fun _=>syA 0 0 (S0 p).r 0) 0 2 id (S0 p).r) F1 w h hn hr k2 (.inr (.inr ⟨rfl,rfl⟩)) wE hE ?_ ?_
    .intro Hb W g cap sa sc F1 F2 _ hH;rw[<-b0,<-HP] at hH;rw[<-HP,eA];refine(QM id f B Hb g _ cap p S0 sa 0 sc _ F1 F2 y (V a9 y.p.m c9) W hH hp hz hK.sr).mono ?_;rintro e w' ⟨rfl,a0,hh,t,hF⟩;exact⟨rfl,sa,sc,a0,F2,hh,t,hF,fun _ k=>.inl k⟩
    .intro Hb W g cap sa sc F1 F2 _ hH;rw[<-HP] at hH |-;have:=jD5 id f B Hb g _ cap p (hvA S0 p y) sa 0 sc (fun _=>syA 0 0 (S0 p).r 0) F1 F2 (zH f) _ W hH hf hp rfl hR.1 hR.2 (by omega) (by rw[eR];exact hK.r) h3
     rw[eR] at this;exact this
   .have eS:hvS id f S0 p y=hvB f S0 p y:=by unfold hvS;rw[A5 k0,A5 hR]
    have eM:hvM id f S0 p y=0:=by unfold hvM;rw[A5 k0,A5 hR]
    rw[eS,eM,eB];have c0:hvT f S0 p y<1\/(hvA S0 p y p).d=Aw:=by
     by_cases q:hvT f S0 p y<1
     .exact .inl q
     .right
      cases e1:(hvA S0 p y p).d with
      | true=>rfl
      | false=>exact Bo ⟨by omega,e1⟩ hR
    refine xX id f B Nb g n cap S (hvA S0 p y) _ y a9 c9 0 0 (syM (fun _=>syA 0 0 (S0 p).r 0) 0 2 id (S0 p).r) (syM (fun _=>syA 0 0 (S0 p).r 0) 0 2 id (S0 p).r) _ F1 w h hn hr k2 (.inr (.inr ⟨rfl,rfl⟩)) wE hE ?_ ?_
    .intro Hb W g cap sa sc F1 F2 _ hH;rw[<-b0,<-HP] at hH;rw[<-HP,eA];refine(QM id f B Hb g _ cap p S0 sa 0 sc _ F1 F2 y (V a9 y.p.m c9) W hH hp hz hK.sr).mono ?_;rintro e w' ⟨rfl,a0,hh,t,hF⟩;exact⟨rfl,sa,sc,a0,F2,hh,t,hF,fun _ k=>.inl k⟩
    .intro Hb W g cap sa sc F1 F2 _ hH;rw[<-HP] at hH |-;refine(jD4 id f B Hb g _ cap p (hvA S0 p y) sa 0 sc _ F1 F2 _ W hH hf hp rfl c0).mono ?_;rintro e w' ⟨rfl,a0,hh,t,hF⟩;exact⟨rfl,sa,sc,a0,F2,hh,t,hF,fun _ k=>.inl k⟩
structure NhB (n:Nat) (S:Nat->Sl) (y:Sy):Prop where
 kn:n<=1048576
 k:∀ i,i<n->SlK (S i)
 r:y.r.size<=1048576
 m:y.p.m<=1048576
 pr:y.p.r.size<=1048576
 pb:y.p.b.size<=1048576
 ps:∀ i,i<y.p.m->(y.p.S i).size<=1048576
theorem SlK.ok {s:Sl} (h:SlK s):SlN s:=⟨h.m,fun i hi=>By (h.tx i hi) (by unfold Au;omega),h.ne,h.nr⟩
theorem ZD.at {f:Int} {zs:List Int} (h:ZD f zs):∀ i,i<zs.length->(i:Int)<=zs.getD i 0:=by
 intro i;induction i with
 | zero=>intro hi;exact_mod_cast (h 0 hi).1.1
 | succ j ih=>
  intro hi;have h1:=ih (by omega);have h2:=(h (j+1) hi).2 (by omega);simp only[Nat.add_sub_cancel] at h2;omega
theorem ZD.len {f:Int} {zs:List Int} (h:ZD f zs) (hf:1<=f/\f<=3):zs.length<=10:=by
 rcases Fy zs.length with k|k
 .omega
 .have h1:=h.at (zs.length-1) (by omega);have h2:=(h (zs.length-1) (by omega)).1.2;omega
theorem ZD.step {f:Int} {zs:List Int} (h:ZD f zs) (i:Nat):∀ d,i+d<zs.length->zs.getD i 0<=zs.getD (i+d) 0:=by
 intro d;induction d with
 | zero=>intro _;exact Int.le_refl _
 | succ j ih=>
  intro hi;have h1:=ih (by omega);have h2:=(h (i+(j+1)) hi).2 (by omega);have e:i+(j+1)-1=i+j:=by omega
  rw[e] at h2;omega
theorem ZD.sorted {f:Int} {zs:List Int} (h:ZD f zs):zs.Pairwise (.<=.):=by
 rw[Ep];intro i j hi hj a0;have:=h.step i (j-i) (by omega)
 have e:i+(j-i)=j:=by omega
 rw[e] at this;simpa [List.getD_eq_getElem?_getD,Bj hi,Bj hj] using this
theorem XI {f:Int} {zs:List Int} (h:JI f zs=Aw):ZD f zs:=by
 rcases G5 (ZD f zs) with k|k
 .exact k
 .rw[jAf k] at h;cases h
theorem jDk {id f:Int} {n:Nat} {S:Nat->Sl} (h:ndB id f n S=Aw):NdP id f n S:=by
 rcases G5 (NdP id f n S) with k|k
 .exact k
 .rw[xY k] at h;cases h
theorem QR {id f:Int} {n:Nat} {S:Nat->Sl} {y:Sy} (h:vL id f n S y=Aw):jHd id f n S y:=by
 rcases G5 (jHd id f n S y) with k|k
 .exact k
 .rw[vG k] at h;cases h
theorem jGv (S:Nat->Sl) (r:BA) (n:Nat):(plN S r n=n/\slF S r n (plN S r n)=slR r)\/(plN S r n<n/\slF S r n (plN S r n)=S (plN S r n)/\(S (plN S r n)).r=r):=by
 unfold plN;cases e:plc S r n with
 | none=>left;simp[slF]
 | some x=>
  obtain⟨_,h,h1,_⟩:=xC e;right
  refine⟨by simp;omega,?_,h1⟩;unfold slF;rw[A5 (by simp;omega)]
noncomputable def nhB (id f:Int) (n:Nat) (S:Nat->Sl) (y:Sy):Bool:=ndB id f n S&&vL id f n S y
noncomputable def nhN (id f:Int) (n:Nat) (S:Nat->Sl) (y:Sy):Nat:=if nhB id f n S y then hrN S y.r n else n
noncomputable def nhS (id f:Int) (n:Nat) (S:Nat->Sl) (y:Sy):Nat->Sl:=if nhB id f n S y then hvS id f (slF S y.r n) (plN S y.r n) y else S
noncomputable def nhM (id f:Int) (n:Nat) (S:Nat->Sl) (y:Sy):Nat:=if nhB id f n S y then hvM id f (slF S y.r n) (plN S y.r n) y else 0
noncomputable def nhY (id f:Int) (n:Nat) (S:Nat->Sl) (y:Sy):Nat->Sy:=if nhB id f n S y then hvY id (slF S y.r n) (plN S y.r n) y else fun _=>syA 0 0 y.r 0
theorem jJp {id f:Int} {n:Nat} {S:Nat->Sl} {y:Sy} (hB:NhB n S y) (h:NdP id f n S):HvK (slF S y.r n) (plN S y.r n) y:=by
 have hf:=ZG h.1;rcases jGv S y.r n with ⟨_,k⟩|⟨k1,k,_⟩
 .refine⟨?_,?_,?_,?_,?_,hB.m,hB.pr,hB.pb,hB.ps⟩ <;> rw[k]
  .simp[slR]
  .simp[slR]
  .simp[slR]
  .simp[slR]
  .exact hB.r
 .have hs:=(h.2.2 _ k1).1;have he:=XI hs.2.1;have hz:=XI hs.2.2.1;refine⟨?_,?_,?_,?_,?_,hB.m,hB.pr,hB.pb,hB.ps⟩ <;> rw[k]
  .have:=he.len hf;omega
  .have:=hz.len hf;omega
  .exact he.sorted
  .exact hz.sorted
  .have:=hs.1;omega
theorem jGp (zs:List Int) (x:Int):(xM zs x).length<=zs.length+1:=by
 unfold xM;split
 .omega
 .simp[List.length_append,List.length_take,List.length_drop];omega
end
section
open Go.ChangeShapes Go.WideShapes Go.ChangeAt Go.RowKit Go.Sort
def Rf (W:Ad) (E:Nat->Prop) (d:Dt) (v:Aj):Prop:=∀ W',W.1.size<=W'.1.size->(∀ b,¬ E b->b<W.1.size->W'.1[b]?=W.1[b]?)->Rd W' d v
theorem Rf.rd {W:Ad} {E:Nat->Prop} {d:Dt} {v:Aj} (h:Rf W E d v):Rd W d v:=h W (Ay _) (fun _ _ _=>rfl)
theorem Rf.turn {W W2:Ad} {E:Nat->Prop} {d:Dt} {v:Aj} (h:Rf W E d v) (hs:W.1.size<=W2.1.size) (ht:∀ b,¬ E b->b<W.1.size->W2.1[b]?=W.1[b]?):Rf W2 E d v:=
 fun W' h1 h2=>h W' (By hs h1) (fun b hb hl=>(h2 b hb (Bu hl hs)).trans (ht b hb hl))
theorem Rf.below {W W2:Ad} {E:Nat->Prop} {d:Dt} {v:Aj} (h:Rf W E d v) (hb:Ab W W W2):Rf W2 E d v:=h.turn hb.size (fun b _ hl=>hb.block b hl)
theorem Rf.setCell {W:Ad} {E:Nat->Prop} {d:Dt} {v:Aj} (h:Rf W E d v) {g:Nat} (hg:E g) (i:Nat) (u:Aj):Rf (W.setCell (Q g i I) u) E d v:=h.turn (by simp) (fun b hb _=>Dg _ _ _ _ (fun e=>hb (e▸hg)))
theorem Rf.setRow {W:Ad} {E:Nat->Prop} {d:Dt} {v:Aj} (h:Rf W E d v) {g:Nat} (hg:E g) (cs:Array Aj):Rf (W.setRow g cs) E d v:=h.turn (by simp) (fun b hb _=>Cd _ _ _ _ (fun e=>hb (e▸hg)))
theorem Rf.of_ow {W:Ad} {B:Nat} {E F:Nat->Prop} {d:Dt} {v:Aj} (h:Ow W B d v F) (hE:∀ x,F x->¬ E x):Rf W E d v:=fun _ _ h2=>(h.frame (fun x hx hl=>h2 x (hE x hx) hl)).rd
theorem Rf.val {W:Ad} {E:Nat->Prop} (v:Aj):Rf W E (.val v) v:=fun _ _ _=>rfl
theorem Rf.mono {W:Ad} {E E':Nat->Prop} {d:Dt} {v:Aj} (h:Rf W E d v) (he:∀ x,E' x->E x):Rf W E' d v:=fun W' h1 h2=>h W' h1 (fun b hb hl=>h2 b (fun k=>hb (he b k)) hl)
theorem zU {W W':Ad} {b o:Nat} (h:W'.1[b]?=W.1[b]?):W'.cell? (Q b o I)=W.cell? (Q b o I):=by
 simp only[World.cell?,h]
theorem Rf.ints {W:Ad} {E:Nat->Prop} {a:OA} {c:Nat} {zs:List Int} (h:jH W a zs.length zs) (hE:∀ b,a=M b->¬ E b.block):Rf W E (inD zs) (V a zs.length c):=by
 intro W' h1 h2;refine qL.2 ⟨h.1,fun i hi=>?_⟩;obtain⟨b,off,ea,hc⟩:=h.2 i hi;refine⟨b,off,ea,?_⟩;have hl:=A7 hc;rw[zU (h2 b (hE _ ea) hl)];exact hc
def NhR (w W:Ad) (id f:Int) (n:Nat) (S:Nat->Sl) (m:Nat) (Y:Nat->Sy) (e:Ending):Prop:=
 ∃ a c sa sc,e=Ae (Ah #[ndV id f (V a n c),V sa m sc])/\Rf W (fun b=>b<w.1.size) (qH n S) (V a n c)/\Rf W (fun b=>b<w.1.size) (qI m Y) (V sa m sc)/\Ab w w W/\∃ F,Ow W w (qH n S) (V a n c) F
theorem SlK.s {s:Sl} (h:SlK s):SlS s:=⟨h.m,h.ne,h.nr⟩
theorem jB4 (W:Ad) (g:Nat) (y:Nat->Sy):Rd W (qI 0 y) (V g 0 0):=⟨_,_,rfl,fun i hi=>Bo hi (Bk i)⟩
structure MhA (w w0 W:Ad) (A C D:Nat) (id f:Int) (g n c:Nat) (S:Nat->Sl) (y:Sy) (a9:OA) (c9 gs:Nat):Prop where
 ra:Row W A 26 #[id,f,V g n c]
 rc:Row W C 31 (syC y (V a9 y.p.m c9))
 rd:Row W D 26 #[(),(),V I 0 0]
 o:Ow W w0 (qH n S) (V g n c) (rng w0 gs)
 b:Ab w w W
 s:Row W gs 31 #[]
 l1:w0.1.size<=gs
 l2:gs<W
theorem MhA.below {w w0 W W':Ad} {A C D:Nat} {id f:Int} {g n c:Nat} {S:Nat->Sl} {y:Sy} {a9:OA} {c9 gs:Nat} (h:MhA w w0 W A C D id f g n c S y a9 c9 gs) (hb:Ab W W W'):MhA w w0 W' A C D id f g n c S y a9 c9 gs:=
 ⟨h.ra.below hb h.ra.lt,h.rc.below hb h.rc.lt,h.rd.below hb h.rd.lt,h.o.below hb,jA h.b hb,h.s.below hb h.s.lt,h.l1,Bu h.l2 hb.size⟩
theorem vC (id f:Int) (a:OA) (n cap:Nat) (S:Nat->Sl) (y:Sy) (a9:OA) (c9:Nat) (w:Ad) (hT:Rd w (qH n S) (V a n cap)) (hB:NhB n S y) (q0:ndB id f n S=Av\/(1<=f/\f<=3)/\ndB id f n S=Aw/\(¬ y.t=id\/y.t=id/\(¬ (-1<=y.f/\y.f<=3*f)\/(-1<=y.f/\y.f<=3*f)/\(¬ (0<=y.k/\y.k<=2)\/(0<=y.k/\y.k<=2)/\(¬ y.r.size=16\/y.r.size=16/\40<=plN S y.r n))))):Ak prog 10 #[ndV id f (V a n cap),syV y (V a9 y.p.m c9)] w fun e w'=>NhR w w' id f n S 0 (fun _=>syA 0 0 y.r 0) e:=by
 obtain⟨A,HA⟩:=nmH w.1.size;obtain⟨C,HC⟩:=nmH (w.1.size+1);obtain⟨D,HD⟩:=nmH (w.1.size+1+1);obtain⟨w0,d0⟩:=nmH (((w.alloc (J #[id,f,V a n cap] 26)).alloc (J (syC y (V a9 y.p.m c9)) 31)).alloc (J #[(),(),V I 0 0] 26));have RA:=zS d0 HA;have RC:=xV d0 HC;have RD:=zE d0 HD;have o0:=bl3 d0;have t0:=hd o0;have HL:H (w.1.size<=A/\w.1.size<=C/\w.1.size<=D/\A<w0/\C<w0/\D<w0):=⟨by have:=HA.out;omega,by have:=HC.out;omega,by have:=HD.out;omega,RA.out.lt,RC.out.lt,RD.out.lt⟩;have z0:H (A≠C/\A≠D/\C≠D):=⟨by have:=HA.out;have:=HC.out;omega,by have:=HA.out;have:=HD.out;omega,by have:=HC.out;have:=HD.out;omega⟩;have u0:=hd (XM id f a n cap S w0 (hT.below o0) hB.kn (fun i hi=>(hB.k i hi).s));have HB:=hd hB;obtain⟨q,HQ⟩:∃ q:Int,H (3*f+1=q):=⟨_,rfl⟩;obtain⟨q1,g0⟩:∃ q1:Int,H (3*f=q1):=⟨_,rfl⟩;obtain⟨b1,c0⟩:=nnH (ndB id f n S);obtain⟨b3,H3⟩:=nnH (inB y.f (-1) q1);obtain⟨b4,H4⟩:=nnH (inB y.k 0 2);obtain⟨tb,i0⟩:=nnH ((y.t !=id));obtain⟨sb,h0⟩:=nnH (((y.r.size:Int) !=16));obtain⟨pb,m0⟩:=nnH (decide (40<=((plN S y.r n:Nat):Int)));have HF:H (b1=Aw->1<=f/\f<=3):=fun k=>q0.elim (fun h=>by rw[c0.out] at h;rw[h] at k;cases k) (fun h=>h.1)
 have r0:H (b1=Av\/(b1=Aw/\tb=Aw)\/(b1=Aw/\tb=Av/\b3=Av)\/(b1=Aw/\tb=Av/\b3=Aw/\b4=Av)\/(b1=Aw/\tb=Av/\b3=Aw/\b4=Aw/\sb=Aw)\/(b1=Aw/\tb=Av/\b3=Aw/\b4=Aw/\sb=Av/\pb=Aw)):=by
  rcases q0 with h|⟨_,h1,h⟩
  .exact .inl (c0.symm.trans h)
  .have e1:=c0.symm.trans h1;have T2:y.t=id->tb=Av:=fun k=>i0.symm.trans (by simp[k])
   have T3:(-1<=y.f/\y.f<=3*f)->b3=Aw:=fun k=>H3.symm.trans (Bf (by have:=g0.out;omega))
   have T4:(0<=y.k/\y.k<=2)->b4=Aw:=fun k=>H4.symm.trans (Bf k)
   rcases h with h|⟨h2,h|⟨h3,h|⟨h4,h|⟨h5,h⟩⟩⟩⟩
   .exact .inr (.inl ⟨e1,i0.symm.trans (by simpa using h)⟩)
   .exact .inr (.inr (.inl ⟨e1,T2 h2,H3.symm.trans (Bg (by have:=g0.out;omega))⟩))
   .exact .inr (.inr (.inr (.inl ⟨e1,T2 h2,T3 h3,H4.symm.trans (Bg h)⟩)))
   .exact .inr (.inr (.inr (.inr (.inl ⟨e1,T2 h2,T3 h3,T4 h4,h0.symm.trans (by simp;omega)⟩))))
   .exact .inr (.inr (.inr (.inr (.inr ⟨e1,T2 h2,T3 h3,T4 h4,h0.symm.trans (by simp;omega),m0.out.symm.trans (Bf (by omega))⟩))))
 clear hT hB o0 q0;go_enter func10,ntmps10
 go_wp2_with (rw[<-d0.out,<-HD.out,<-HC.out,<-HA.out];refine Bb rfl 26 _ rfl A rfl 26 #[id,f,V a n cap] (0,0) _ ?_ Ch rfl Tryz.infoNd ?_;exact RA)
 refine Ax u0.out ?_;rintro e w1 ⟨g,c,rfl,O1,b1⟩;obtain⟨w2,a0⟩:=nmH (w1.setRow A #[id,f,V g n c]);obtain⟨gs,b0⟩:=nmH w2.1.size;obtain⟨w3,e0⟩:=nmH (w2.alloc (J #[] 31));have R1:=hd (RA.below b1 RA.lt);have K3:H (MhA w w0 w3 A C D id f g n c S y a9 c9 gs):=by
  have b3:Ab w2 w2 w3:=by rw[e0.out];exact(Az _ _).alloc (Ay _) _
  have e2:w2.1.size=w1.1.size:=by rw[a0.out];simp
  have l:=HL.out;have s1:=b1.size;have g1:Row w2 A 26 #[id,f,V g n c]:=by rw[a0.out];exact R1.row
  have i1:Row w2 C 31 (syC y (V a9 y.p.m c9)):=by rw[a0.out];exact(RC.below b1 RC.lt).otherRow (fun e=>z0.1 e.symm)
  have rd2:Row w2 D 26 #[(),(),V I 0 0]:=by rw[a0.out];exact(RD.below b1 RD.lt).otherRow (fun e=>z0.2.1 e.symm)
  have o2:Ow w2 w0 (qH n S) (V g n c) (rng w0 w1.1.size):=by
   rw[a0.out];exact O1.frame fun x hx _=>Cd _ _ _ _ (fun e=>by have h1:w0.1.size<=x:=hx.1;omega)
  have b2:Ab w w w2:=by rw[a0.out];exact jF (jA t0 b1) l.1 _
  refine⟨g1.below b3 g1.lt,i1.below b3 i1.lt,rd2.below b3 rd2.lt,(o2.below b3).mono (fun x hx=>⟨hx.1,?_⟩),jA b2 b3,?_,?_,?_⟩
  .have h1:=hx.2;rw[b0.out];omega
  .rw[e0.out,b0.out];exact Row.new w2 _ _
  .rw[b0.out];omega
  .rw[b0.out];have:=b3.size
   rw[e0.out];simp
 have j0:=hd K3.ra;have k0:=hd K3.rc;have y0:=hd (jBa id f g n c S y.r w3 K3.o.rd HB.kn);have u3:=k0.cell 3;simp at u3;clear O1 b1;go_wp2_with (first|(refine Bw rfl 26 _ _ rfl A #[id,f,V g n c] rfl rfl 26 #[id,f,V a n cap] ?_ Tryz.infoNd rfl (by simp[Aq]) ?_;exact R1;rw[<-a0.out])|(rw[<-e0.out,<-b0.out];refine Bb rfl 26 _ rfl A rfl 26 #[id,f,V g n c] (0,0) _ ?_ Ch rfl Tryz.infoNd ?_;exact j0))
 refine CM y0.out fun w4 b4=>?_
 have K4:=hd (K3.below b4);obtain⟨pl,n0⟩:∃ x:Int,H (x=((plN S y.r n:Nat):Int)):=⟨_,rfl⟩;rw[<-n0.out];have k1:=hd K4.ra;have n1:=hd K4.rc;have t6:decide (40<=pl)=pb:=by rw[n0.out];exact m0
 clear u3 b4 y0 u0 K3 j0 k0 R1 e0 a0 b0;obtain⟨x0,x1,x2⟩:=k1.c3 0 1 2;obtain⟨v0,v1,v2,v3⟩:=n1.c4 0 1 2 3;simp at x0 x1 x2 v0 v1 v2 v3;have X0:∀ d os,(grow (redrawn w4 d) os).cell? (Q A 0 I)=_:=fun d os=>cell_regrown x0 d os
 have X1:∀ d os,(grow (redrawn w4 d) os).cell? (Q A 1 I)=_:=fun d os=>cell_regrown x1 d os
 have X2:∀ d os,(grow (redrawn w4 d) os).cell? (Q A 2 I)=_:=fun d os=>cell_regrown x2 d os
 have V0:∀ d os,(grow (redrawn w4 d) os).cell? (Q C 0 I)=_:=fun d os=>cell_regrown v0 d os
 have V1:∀ d os,(grow (redrawn w4 d) os).cell? (Q C 1 I)=_:=fun d os=>cell_regrown v1 d os
 have V2:∀ d os,(grow (redrawn w4 d) os).cell? (Q C 2 I)=_:=fun d os=>cell_regrown v2 d os
 have V3:∀ d os,(grow (redrawn w4 d) os).cell? (Q C 3 I)=_:=fun d os=>cell_regrown v3 d os
 have t2:=i0.out;have t5:=h0.out;have o1:b1=Aw->IntKind.i64.wrap (q-1)=q1:=fun k=>by have:=HF k;have:=HQ.out;have:=g0.out;rw[A8];omega
 have N1:∀ d os,Ak prog 14 #[Ai #[id,f,V g n c]] (grow (redrawn w4 d) os) fun e w'=>e=Ae b1/\∃ p:Regrown,w'=grow (redrawn w4 p.d) p.os:=fun d os=>Calls.regrown_of (by have:=QE id f g n c S (grow (redrawn w4 d) os) (K4.o.rd.below (below_regrown w4 d os)) HB.kn (fun i hi=>(HB.k i hi).ok);rw[c0.out] at this;exact this)
 have N2:b1=Aw->∀ d os,Ak prog 50 #[f] (grow (redrawn w4 d) os) fun e w'=>e=Ae q/\∃ p:Regrown,w'=grow (redrawn w4 p.d) p.os:=fun k d os=>Calls.regrown_of ((vR f _ (HF k)).mono fun e w' h=>⟨by rw[h.1,HQ.out],by rw[h.2];exact Az _ _⟩)
 have j1:∀ d os,Ak prog 43 #[y.f,(-1:Int),q1] (grow (redrawn w4 d) os) fun e w'=>e=Ae b3/\∃ p:Regrown,w'=grow (redrawn w4 p.d) p.os:=fun d os=>Calls.regrown_of ((jN y.f (-1) q1 _).mono fun e w' h=>⟨by rw[h.1,H3.out],by rw[h.2];exact Az _ _⟩)
 have N4:∀ d os,Ak prog 43 #[y.k,(),(2:Int)] (grow (redrawn w4 d) os) fun e w'=>e=Ae (.bool b4)/\∃ p:Regrown,w'=grow (redrawn w4 p.d) p.os:=fun d os=>Calls.regrown_of ((jN y.k 0 2 _).mono fun e w' h=>⟨by rw[h.1,H4.out],by rw[h.2];exact Az _ _⟩)
 have H1:=r0.out;clear c0 r0 i0 h0 m0 H3 H4 HF HQ g0 n0;go_wp2_with fail
 rcases H1 with rfl|⟨rfl,rfl⟩|⟨rfl,rfl,rfl⟩|⟨rfl,rfl,rfl,rfl⟩|⟨rfl,rfl,rfl,rfl,rfl⟩|⟨rfl,rfl,rfl,rfl,rfl,rfl⟩;all_goals
  try have u1:=o1 rfl
  refine wp_region_quiet_below (by kernel_rfl) (by kernel_rfl) ?_;repeat (go_big_quiet_step (first|(with_reducible exact N1 _ _)|(with_reducible exact N2 rfl _ _)|(with_reducible exact j1 _ _)|(with_reducible exact N4 _ _)))
  refine Ct ?_;intro _ r1;obtain⟨⟨dq,f1⟩,c1⟩:=r1;obtain⟨w5,s0⟩:=nmH (grow (redrawn w4 dq) f1);subst c1;have K5:H (MhA w w0 w5 A C D id f g n c S y a9 c9 gs):=by rw[s0.out];exact K4.below (below_regrown w4 dq f1)
  have m1:=hd K5.ra;have a1:=hd K5.rd;obtain⟨w6,f0⟩:=nmH (w5.setRow D #[id,f,V g n c]);have R6:=rr f0 a1;have KF:H (NhR w w6 id f n S 0 (fun _=>syA 0 0 y.r 0) (Ae (Ah #[ndV id f (V g n c),V gs 0 0]))):=by
   have hD:=HL.2.2.2.2.2;have t1:=t0.size;refine⟨_,_,_,_,rfl,?_,fun W' _ _=>jB4 W' _ _,?_,?_⟩
   .rw[f0.out];exact Rf.of_ow (K5.o.frame (fun x hx _=>Cd _ _ _ _ (fun e=>by have h1:w0.1.size<=x:=hx.1;omega))) (fun x hx k=>by have h1:w0.1.size<=x:=hx.1;have h2:x<w.1.size:=k;omega)
   .rw[f0.out];exact jF K5.b HL.2.2.1 _
   .rw[f0.out];exact⟨_,(K5.o.frame (fun x hx _=>Cd _ _ _ _ (fun e=>by have h1:w0.1.size<=x:=hx.1;omega))).base t1⟩
  clear x0 x1 x2 v0 v1 v2 v3 X0 X1 X2 V0 V1 V2 V3;rw[<-s0.out];go_wp2_with (first|(refine Bb rfl 26 _ rfl A rfl 26 #[id,f,V g n c] (0,0) _ ?_ Ch rfl Tryz.infoNd ?_;exact m1)|(refine Bw rfl 26 _ _ rfl D #[id,f,V g n c] rfl rfl 26 #[(),(),V I 0 0] ?_ Tryz.infoNd rfl (by simp[Aq]) ?_;exact a1;rw[<-f0.out]))
  refine B7 (v:=Ah #[ndV id f (V g n c),V gs 0 0]) (by
   obtain⟨p0,p1,p2⟩:=R6.c3 0 1 2;simp at p0 p1 p2;simp[results,results10,go_sem,p0,p1,p2]) rfl KF
structure MhC (w W:Ad) (C D:Nat) (y:Sy) (a9:OA) (c9:Nat):Prop where
 rc:Row W C 31 (syC y (V a9 y.p.m c9))
 rd:Row W D 26 #[(),(),V I 0 0]
 b:Ab w w W
theorem MhC.below {w W W':Ad} {C D:Nat} {y:Sy} {j:OA} {q:Nat} (h:MhC w W C D y j q) (hb:Ab W W W'):MhC w W' C D y j q:=⟨h.rc.below hb h.rc.lt,h.rd.below hb h.rd.lt,jA h.b hb⟩
theorem jFs {K:Array Oper} {G:List Oper} {o:Oper} {a:Act} {Q:Exit->Act->Ad->Prop} (j:Ad) (M:o.guard=I) (s x:Operand)
  (ho:o.op=.call {callee:=.builtin .append,args:=#[s,x],argTypes:=#[24,24]})
  (id f:Int) (B C g n cap:Nat) (S:Nat->Sl) (r:BA) (J:Nat->Prop)
  (hs:a.eval s=V g n cap) (D:a.eval x=V (Addr.mk j 0 I) 1 1)
  (u:Nw (j.alloc (.cells (jCb r) 42)) B C id f g n cap S J) (hm:n<=2000000)
  (h:∀ H c8 A F8,Row A C 26 #[id,f,V g n cap]/\Nw (A.setCell (Addr.mk C 2 I) (V (Addr.mk H 0 I) (n+1) c8)) B C id f H (n+1) c8 (slF S r n) F8/\Ab B (j.alloc (.cells (jCb r) 42)) A/\(∀ x,x<j.1.size+1->¬ J x->A.1[x]?=(j.alloc (.cells (jCb r) 42)).1[x]?)/\(∀ x,F8 x->J x\/j.1.size<x)->wpList prog K Q G (a.put o.dst (V (Addr.mk H 0 I) (n+1) c8)) A) :
  wpList prog K Q (o::G) a (j.alloc (.cells (jCb r) 42)):=by
 obtain⟨i0,W,L,O,R⟩:=Cg Tryz.infoSlZ;refine xL _ M s x 24 ho B 42 i0 (Ai zcS.toArray) 13 _ underlying24 W L O R rfl (by decide) (V g n cap) n _ J hs u.o ⟨j.1.size,0,I⟩ 1 (jCb r).toList D rfl (Cf (t:=42) (fr:=(0,0)) (Row.new j _ _)) (by simp[Aq]) (slD (slR r)) (fun _ _=>False) (fun q hq=>jOq q hq) (fun _ _ _ h=>h.elim) (fun _ _ _ _ _ h=>h.elim) (by unfold Au;omega) (by omega) u.b.2 fun H c8 A O8 b8 T8=>?_
 have e:(j.alloc (.cells (jCb r) 42)).1.size=j.1.size+1:=by simp
 have O9:Ow A B (qH (n+1) (slF S r n)) (V (Addr.mk H 0 I) (n+1) c8) (fun x=>x<A.1.size/\(J x\/j.1.size<x)):=(O8.mono (fun x D=>⟨D.1,by
  rcases D.2 with (h|⟨_,_,h⟩)|h
  .exact .inl h
  .exact h.elim
  .rw[e] at h;exact .inr h⟩)).congr (fun i q W _=>jD8 i q W)
 have Z:Row A C 26 #[id,f,V g n cap]:=(T8 C u.r.lt u.h1).trans u.r;have X:¬ (C<A.1.size/\(J C\/j.1.size<C)):=fun k=>by
  rcases k.2 with k|k
  .exact u.h1 k
  .have:=u.r.lt;omega
 exact h H c8 A _ ⟨Z,⟨Z.set 2 _,O9.far 2 _ X,X,⟨u.b.1,by simpa using By u.b.2 b8.size⟩,fun x k=>⟨by rcases k.2 with k|k;exact(u.l1 x k).1;have:=u.b.2;omega,by simpa using k.1⟩⟩,b8,fun x D hF=>T8 x (by rw[e];exact D) hF,fun x D=>D.2⟩
theorem vE {B:Nat} {w W:Ad} (h:Ab B w W) {g:Nat} (j:B<=g) (i:Nat) (v:Aj):Ab B w (W.setCell (Q g i I) v):=h.setCell j v
theorem jNl {W:Ad} {B g n cap:Nat} {S:Nat->Sl} {F:Nat->Prop} (h:Ow W B (qH n S) (V g n cap) F) {p:Nat} (J:p<n):∃ Z j u c6 C A G6 O L,W.rangeAt g (p*13) (slL (S p) (V Z (S p).p.m c6) (V j (S p).ze.length C) (V u (S p).zr.length A))/\Ow W B (txD (S p).p.m (S p).p.S) (V Z (S p).p.m c6) G6/\Ow W B (inD (S p).ze) (V j (S p).ze.length C) O/\Ow W B (inD (S p).zr) (V u (S p).zr.length A) L/\(∀ x,G6 x\/O x\/L x->F x/\x≠g)/\(∀ b,j=some b->O b.block)/\(∀ b,u=some b->L b.block):=by
 obtain⟨a,b0,c,G,e,ho,H,hr⟩:=h;cases e;have M:∀ q,q<13->W.cell? (Q g (p*13+q) I)=some (c p q):=fun q hq=>by rw[Br ho _ (qM J hq)];exact jU _ _ _ _ _ J hq
 have k:∀ q,q<13->Ow W B (slD (S p) q) (c p q) (G p q):=fun q hq=>hr p q J hq
 have k6:=k 6 (by omega);have K:=k 11 (by omega);have X:=k 12 (by omega);obtain⟨Z,c6,e6⟩:∃ Z c6,c p 6=V Z (S p).p.m c6:=by obtain⟨a,c,_,_,e,_⟩:=k6;exact⟨a,c,e⟩
 obtain⟨j,C,a1,a3⟩:∃ j C,c p 11=V j (S p).ze.length C/\∀ b,j=some b->G p 11 b.block:=by obtain⟨a,c,_,_,e,_,H,_⟩:=K;exact⟨a,c,e,H.head⟩
 obtain⟨u,A,a0,a2⟩:∃ u A,c p 12=V u (S p).zr.length A/\∀ b,u=some b->G p 12 b.block:=by obtain⟨a,c,_,_,e,_,H,_⟩:=X;exact⟨a,c,e,H.head⟩
 rw[e6] at k6;rw[a1] at K;rw[a0] at X;refine⟨Z,j,u,c6,C,A,G p 6,G p 11,G p 12,?_,k6,K,X,?_,a3,a2⟩
 .have R:=XK M;rw[e6,a1,a0,show c p 0=_ from k 0 (by omega),show c p 1=_ from k 1 (by omega),show c p 2=_ from k 2 (by omega),show c p 3=_ from k 3 (by omega),show c p 4=_ from k 4 (by omega),show c p 5=_ from k 5 (by omega),show c p 7=_ from k 7 (by omega),show c p 8=_ from k 8 (by omega),show c p 9=_ from k 9 (by omega),show c p 10=_ from k 10 (by omega)] at R;exact R
 .intro x D;rcases D with D|D|D
  .exact⟨H.sub p 6 x J (by omega) D,fun e=>H.apart p 6 _ J (by omega) rfl (e▸D)⟩
  .exact⟨H.sub p 11 x J (by omega) D,fun e=>H.apart p 11 _ J (by omega) rfl (e▸D)⟩
  .exact⟨H.sub p 12 x J (by omega) D,fun e=>H.apart p 12 _ J (by omega) rfl (e▸D)⟩
def mhE (B g X A D b:Nat):Prop:=b=g\/b=X\/b=A\/(b=D\/b<B)
def mhG (B g X A D gs b:Nat):Prop:=mhE B g X A D b\/b=gs
def Lo (w W:Ad) (A D X g gs:Nat) (F1:Nat->Prop) (o:Nat) (d0 d:Dt) (v:Aj) (H:Nat->Prop):Prop:=
 (d=d0/\W.cell? (Q g o I)=M v/\∀ b,¬ H b)\/(Ow W w d v H/\∀ b,H b->¬ F1 b/\¬ mhG w g X A D gs b)
theorem Lo.kept {w W W':Ad} {A D X g j:Nat} {C:Nat->Prop} {o:Nat} {B d:Dt} {v:Aj} {H:Nat->Prop} (h:Lo w W A D X g j C o B d v H) (K:g≠X) (G:g≠j) (u:∀ b,b<W.1.size->b≠X->b≠j->W'.1[b]?=W.1[b]?):Lo w W' A D X g j C o B d v H:=by
 rcases h with ⟨e,q,hn⟩|⟨J,hn⟩
 .exact .inl ⟨e,by rw[zU (u g (A7 q) K G)];exact q,hn⟩
 .exact .inr ⟨J.frame fun b hb hl=>u b hl (fun e=>(hn b hb).2 (.inl (.inr (.inl e)))) (fun e=>(hn b hb).2 (.inr e)),hn⟩
structure MhO (p:Nat) (w W:Ad) (A D X g gs:Nat) (F1:Nat->Prop) (S:Nat->Sl) (x:Sl) (v6 v11 v12:Aj):Prop where
 ex:∃ H6 H11 H12:Nat->Prop,Lo w W A D X g gs F1 (p*13+6) (txD (S p).p.m (S p).p.S) (txD x.p.m x.p.S) v6 H6/\Lo w W A D X g gs F1 (p*13+11) (inD (S p).ze) (inD x.ze) v11 H11/\Lo w W A D X g gs F1 (p*13+12) (inD (S p).zr) (inD x.zr) v12 H12/\(∀ b,H6 b->¬ H11 b)/\(∀ b,H6 b->¬ H12 b)/\(∀ b,H11 b->¬ H12 b)
theorem MhO.kept {p:Nat} {w W W':Ad} {A D X g u:Nat} {M:Nat->Prop} {S:Nat->Sl} {x:Sl} {O q j:Aj} (h:MhO p w W A D X g u M S x O q j) (L:g≠X) (H:g≠u) (C:∀ b,b<W.1.size->b≠X->b≠u->W'.1[b]?=W.1[b]?):MhO p w W' A D X g u M S x O q j:=by
 obtain⟨H6,J,B,R,G,K,e1,Z,e3⟩:=h.ex;exact⟨H6,J,B,R.kept L H C,G.kept L H C,K.kept L H C,e1,Z,e3⟩
theorem MhO.as {p:Nat} {w W:Ad} {A D X g H:Nat} {J:Nat->Prop} {S:Nat->Sl} {x u:Sl} {G q j:Aj} (h:MhO p w W A D X g H J S x G q j) (K:u.p=x.p) (C:u.ze=x.ze) (B:u.zr=x.zr):MhO p w W A D X g H J S u G q j:=⟨by rw[K,C,B];exact h.ex⟩
structure MhX (p:Nat) (w W:Ad) (A C D X:Nat) (id f:Int) (g n c:Nat) (S:Nat->Sl) (F1:Nat->Prop) (y:Sy) (a9:OA) (c9:Nat) (x:Sl) (a6 a11 a12:OA) (c6 c11 c12:Nat) (G6 G11 G12:Nat->Prop) (gs:Nat):Prop where
 nw:Nw W w A id f g n c S F1
 k:MhC w W C D y a9 c9
 rx:Row W X 42 (slC x (V a6 x.p.m c6) (V a11 x.ze.length c11) (V a12 x.zr.length c12))
 t:Ow W w (txD x.p.m x.p.S) (V a6 x.p.m c6) G6
 e:Ow W w (inD x.ze) (V a11 x.ze.length c11) G11
 z:Ow W w (inD x.zr) (V a12 x.zr.length c12) G12
 d:∀ b,G6 b\/G11 b\/G12 b->¬ mhG w g X A D gs b
 fs:¬ F1 gs
 de:∀ b,a11=M b->G11 b.block
 dz:∀ b,a12=M b->G12 b.block
 l:w.1.size<=X/\X≠A/\X≠C/\X≠D/\¬ F1 X/\X≠g
 s:Row W gs 31 #[]
 sx:gs≠X
 og:W.cell? (Q g (p*13+6) I)=M (V a6 x.p.m c6)/\W.cell? (Q g (p*13+11) I)=M (V a11 x.ze.length c11)/\W.cell? (Q g (p*13+12) I)=M (V a12 x.zr.length c12)/\x=S p
theorem MhX.below {p:Nat} {w W W':Ad} {A C D X:Nat} {id f:Int} {g n c:Nat} {S:Nat->Sl} {O:Nat->Prop} {y:Sy} {R:OA} {K:Nat} {x:Sl} {J B j:OA} {c6 G u:Nat} {M q H:Nat->Prop} {L:Nat} (h:MhX p w W A C D X id f g n c S O y R K x J B j c6 G u M q H L) (hb:Ab W W W'):MhX p w W' A C D X id f g n c S O y R K x J B j c6 G u M q H L:=
 ⟨h.nw.below hb,h.k.below hb,h.rx.below hb h.rx.lt,h.t.below hb,h.e.below hb,h.z.below hb,h.d,h.fs,h.de,h.dz,h.l,h.s.below hb h.s.lt,h.sx,(hb.cell (p:=Q g _ I) (A7 h.og.1)).trans h.og.1,(hb.cell (p:=Q g _ I) (A7 h.og.2.1)).trans h.og.2.1,(hb.cell (p:=Q g _ I) (A7 h.og.2.2.1)).trans h.og.2.2.1,h.og.2.2.2⟩
theorem MhX.gs' {p:Nat} {w W:Ad} {A C D X:Nat} {id f:Int} {g n c:Nat} {S:Nat->Sl} {L:Nat->Prop} {y:Sy} {a9:OA} {O:Nat} {x:Sl} {M B j:OA} {c6 G u:Nat} {Z q J:Nat->Prop} {K:Nat} (h:MhX p w W A C D X id f g n c S L y a9 O x M B j c6 G u Z q J K):g≠X/\g≠K:=by
 have H:L g:=by obtain⟨_,_,_,_,e,_,R,_⟩:=h.nw.o;cases e;exact R.head _ rfl
 exact⟨fun e=>h.l.2.2.2.2.2 e.symm,fun e=>h.fs (e▸H)⟩
theorem MhX.old {p:Nat} {w W:Ad} {A C D X:Nat} {id f:Int} {g n c:Nat} {S:Nat->Sl} {L:Nat->Prop} {y:Sy} {R:OA} {M:Nat} {x:Sl} {J u j:OA} {c6 B q:Nat} {O G H:Nat->Prop} {K:Nat} (h:MhX p w W A C D X id f g n c S L y R M x J u j c6 B q O G H K):MhO p w W A D X g K L S x (V J x.p.m c6) (V u x.ze.length B) (V j x.zr.length q):=
 ⟨fun _=>False,fun _=>False,fun _=>False,.inl ⟨by rw[h.og.2.2.2],h.og.1,fun _ k=>k⟩,.inl ⟨by rw[h.og.2.2.2],h.og.2.1,fun _ k=>k⟩,.inl ⟨by rw[h.og.2.2.2],h.og.2.2.1,fun _ k=>k⟩,fun _ k=>k.elim,fun _ k=>k.elim,fun _ k=>k.elim⟩
noncomputable def mhx (b:Bool) (S:Nat->Sl) (p:Nat) (y:Sy):Sl:=if b then xJ S p y.p p else if y.k=1 then jCm S p (xM (S p).ze y.f) p else if y.k=2 then jEk S p (xM (S p).zr y.f) p else S p
structure MhY (p:Nat) (w W:Ad) (A C D X:Nat) (id f:Int) (g n c:Nat) (S:Nat->Sl) (F1:Nat->Prop) (y:Sy) (a9:OA) (c9:Nat) (x:Sl) (m:Nat) (Y:Nat->Sy) (so:Aj) (gs:Nat):Prop where
 nw:Nw W w A id f g n c S F1
 k:MhC w W C D y a9 c9
 rx:∃ a6 a11 a12 c6 c11 c12,Row W X 42 (slC x (V a6 x.p.m c6) (V a11 x.ze.length c11) (V a12 x.zr.length c12))/\Rf W (mhG w g X A D gs) (txD x.p.m x.p.S) (V a6 x.p.m c6)/\Rf W (mhG w g X A D gs) (inD x.ze) (V a11 x.ze.length c11)/\Rf W (mhG w g X A D gs) (inD x.zr) (V a12 x.zr.length c12)/\MhO p w W A D X g gs F1 S x (V a6 x.p.m c6) (V a11 x.ze.length c11) (V a12 x.zr.length c12)
 s:Rf W (mhE w g X A D) (qI m Y) so
 so:m=0->so=V gs 0 0
 l:w.1.size<=X/\X≠A/\X≠C/\X≠D/\¬ F1 X/\X≠g
 rg:m=0->Row W gs 31 #[]
 sx:gs≠X
 fs:¬ F1 gs
theorem MhX.y {p:Nat} {w W:Ad} {A C D X:Nat} {id f:Int} {g n c:Nat} {S:Nat->Sl} {M:Nat->Prop} {y:Sy} {O:OA} {L:Nat} {x:Sl} {K u j:OA} {c6 B q:Nat} {R H J:Nat->Prop} {G:Nat} (h:MhX p w W A C D X id f g n c S M y O L x K u j c6 B q R H J G) (Y:Nat->Sy):MhY p w W A C D X id f g n c S M y O L x 0 Y (V G 0 0) G:=
 ⟨h.nw,h.k,⟨K,u,j,c6,B,q,h.rx,Rf.of_ow h.t (fun b k=>h.d b (.inl k)),Rf.of_ow h.e (fun b k=>h.d b (.inr (.inl k))),Rf.of_ow h.z (fun b k=>h.d b (.inr (.inr k))),h.old⟩,fun W' _ _=>jB4 W' G Y,fun _=>rfl,h.l,fun _=>h.s,h.sx,h.fs⟩
theorem jKo {W:Ad} {B n c:Nat} {a':OA} {vs:List Aj} (h:W.ownsRow B 3 1 (V a' n c) n vs) (b:Al) (e:a'=M b):B<=b.block:=(A0 h b.block (by rw[e];rfl)).1
theorem MhX.echo {p:Nat} {w W W':Ad} {A C D X:Nat} {id f:Int} {g n c:Nat} {S:Nat->Sl} {R:Nat->Prop} {y:Sy} {a9:OA} {c9:Nat} {x:Sl} {Z H u:OA} {c6 K B:Nat} {G6 a2 a1:Nat->Prop} {G:Nat} (h:MhX p w W A C D X id f g n c S R y a9 c9 x Z H u c6 K B G6 a2 a1 G) (Y:Nat->Sy) (a':OA) (c':Nat) (zs:List Int) (hb:Ab W W W') (c0:jQ5 W W' H K x.ze a' c' zs.length zs):MhY p w (W'.setCell (Q X 11 I) (V a' zs.length c')) A C D X id f g n c S R y a9 c9 {x with ze:=zs} 0 Y (V G 0 0) G:=by
 have k:=h.below hb;have d0:mhG w g X A D G X:=.inl (.inr (.inl rfl));have hl:=h.l;have a3:=h.rx.lt;have hE:∀ b,a'=M b->¬ mhG w g X A D G b.block:=fun b e=>by
  rcases c0.2.1 with j|j
  .exact h.d _ (.inr (.inl (h.de b (j▸e))))
  .have h1:=j b e;have h2:=h.nw.r.lt;have h3:=h.k.rd.lt;have h4:g<W:=by
    obtain⟨_,_,_,_,e,ho,_,_⟩:=h.nw.o;cases e;rcases jX ho with ⟨j,_⟩|⟨g1,_,j,_,hg,_⟩
    .cases j
    .cases j;exact(Bz.1 hg).1
   have h5:=h.s.lt;have h6:=h.k.b.size;intro k;rcases k with (k|k|k|k)|k <;> omega
 refine⟨⟨k.nw.r.other 11 _ (fun e=>hl.2.1 e.symm),k.nw.o.far 11 _ hl.2.2.2.2.1,k.nw.h1,⟨k.nw.b.1,by simpa using k.nw.b.2⟩,fun b L=>⟨(k.nw.l1 b L).1,by simpa using (k.nw.l1 b L).2⟩⟩,⟨k.k.rc.other 11 _ (fun e=>hl.2.2.1 e.symm),k.k.rd.other 11 _ (fun e=>hl.2.2.2.1 e.symm),vE k.k.b hl.1 11 _⟩,?_,fun W' _ _=>jB4 W' G Y,fun _=>rfl,hl,fun _=>k.s.other 11 _ k.sx,k.sx,k.fs⟩;have hO:MhO p w W' A D X g G R S {x with ze:=zs} (V Z x.p.m c6) (V a' zs.length c') (V u x.zr.length B):=by
  rcases c0.2.2 with j|j
  .exact⟨fun _=>False,fun _=>False,fun _=>False,.inl ⟨by rw[k.og.2.2.2],k.og.1,fun _ q=>q⟩,.inl ⟨by rw[j.2.2,k.og.2.2.2],by rw[j.1,j.2.1,j.2.2];exact k.og.2.1,fun _ q=>q⟩,.inl ⟨by rw[k.og.2.2.2],k.og.2.2.1,fun _ q=>q⟩,(fun _ q=>q.elim),(fun _ q=>q.elim),fun _ q=>q.elim⟩
  .exact⟨fun _=>False,(fun b=>∃ b0,a'=M b0/\b=b0.block),fun _=>False,.inl ⟨by rw[k.og.2.2.2],k.og.1,fun _ q=>q⟩,.inr ⟨(vV j (fun b e=>⟨b,e,rfl⟩)).base h.k.b.size,fun b ⟨b0,e9,h9⟩=>⟨fun L=>by have h1:=(h.nw.l1 b L).2;have h2:=(jKo j b0 e9);omega,h9▸hE b0 e9⟩⟩,.inl ⟨by rw[k.og.2.2.2],k.og.2.2.1,fun _ q=>q⟩,(fun _ q=>q.elim),(fun _ q=>q.elim),fun _ _ q=>q⟩
 have a0:=hO.kept (W':=W'.setCell (Q X 11 I) (V a' zs.length c')) h.gs'.1 h.gs'.2 (fun b _ hb _=>Cn W' (Q X 11 I) b _ (fun e=>hb e));exact⟨Z,a',u,c6,c',B,k.rx.set 11 _,(Rf.of_ow k.t (fun b q=>k.d b (.inl q))).setCell d0 11 _,(Rf.ints c0.1 hE).setCell d0 11 _,(Rf.of_ow k.z (fun b q=>k.d b (.inr (.inr q)))).setCell d0 11 _,a0⟩
theorem MhX.ready {p:Nat} {w W W':Ad} {A C D X:Nat} {id f:Int} {g n c:Nat} {S:Nat->Sl} {R:Nat->Prop} {y:Sy} {a9:OA} {c9:Nat} {x:Sl} {Z u J:OA} {c6 G K:Nat} {G6 a2 a1:Nat->Prop} {B:Nat} (h:MhX p w W A C D X id f g n c S R y a9 c9 x Z u J c6 G K G6 a2 a1 B) (Y:Nat->Sy) (a':OA) (c':Nat) (zs:List Int) (hb:Ab W W W') (M:jQ5 W W' J K x.zr a' c' zs.length zs):MhY p w (W'.setCell (Q X 12 I) (V a' zs.length c')) A C D X id f g n c S R y a9 c9 {x with zr:=zs} 0 Y (V B 0 0) B:=by
 have k:=h.below hb;have O:mhG w g X A D B X:=.inl (.inr (.inl rfl));have hl:=h.l;have a3:=h.rx.lt;have hE:∀ b,a'=some b->¬ mhG w g X A D B b.block:=fun b e=>by
  rcases M.2.1 with j|j
  .exact h.d _ (.inr (.inr (h.dz b (j▸e))))
  .have h1:=j b e;have h2:=h.nw.r.lt;have h3:=h.k.rd.lt;have h4:g<W:=by
    obtain⟨_,_,_,_,e,ho,_,_⟩:=h.nw.o;cases e;rcases jX ho with ⟨j,_⟩|⟨g1,_,j,_,hg,_⟩
    .cases j
    .cases j;exact(Bz.1 hg).1
   have h5:=h.s.lt;have h6:=h.k.b.size;intro k;rcases k with (k|k|k|k)|k <;> omega
 refine⟨⟨k.nw.r.other 12 _ (fun e=>hl.2.1 e.symm),k.nw.o.far 12 _ hl.2.2.2.2.1,k.nw.h1,⟨k.nw.b.1,by simpa using k.nw.b.2⟩,fun b L=>⟨(k.nw.l1 b L).1,by simpa using (k.nw.l1 b L).2⟩⟩,⟨k.k.rc.other 12 _ (fun e=>hl.2.2.1 e.symm),k.k.rd.other 12 _ (fun e=>hl.2.2.2.1 e.symm),vE k.k.b hl.1 12 _⟩,?_,fun W' _ _=>jB4 W' B Y,fun _=>rfl,hl,fun _=>k.s.other 12 _ k.sx,k.sx,k.fs⟩;have hO:MhO p w W' A D X g B R S {x with zr:=zs} (V Z x.p.m c6) (V u x.ze.length G) (V a' zs.length c'):=by
  rcases M.2.2 with j|j
  .exact⟨fun _=>False,fun _=>False,fun _=>False,.inl ⟨by rw[k.og.2.2.2],k.og.1,fun _ q=>q⟩,.inl ⟨by rw[k.og.2.2.2],k.og.2.1,fun _ q=>q⟩,.inl ⟨by rw[j.2.2,k.og.2.2.2],by rw[j.1,j.2.1,j.2.2];exact k.og.2.2.1,fun _ q=>q⟩,(fun _ q=>q.elim),(fun _ q=>q.elim),fun _ q=>q.elim⟩
  .exact⟨fun _=>False,fun _=>False,(fun b=>∃ H,a'=some H/\b=H.block),.inl ⟨by rw[k.og.2.2.2],k.og.1,fun _ q=>q⟩,.inl ⟨by rw[k.og.2.2.2],k.og.2.1,fun _ q=>q⟩,.inr ⟨(vV j (fun b e=>⟨b,e,rfl⟩)).base h.k.b.size,fun b ⟨H,e9,h9⟩=>⟨fun L=>by have h1:=(h.nw.l1 b L).2;have h2:=(jKo j H e9);omega,h9▸hE H e9⟩⟩,(fun _ q=>q.elim),(fun _ q=>q.elim),fun _ q=>q.elim⟩
 have a0:=hO.kept (W':=W'.setCell (Q X 12 I) (V a' zs.length c')) h.gs'.1 h.gs'.2 (fun b _ hb _=>Cn W' (Q X 12 I) b _ (fun e=>hb e));exact⟨Z,u,a',c6,G,c',k.rx.set 12 _,(Rf.of_ow k.t (fun b q=>k.d b (.inl q))).setCell O 12 _,(Rf.of_ow k.e (fun b q=>k.d b (.inr (.inl q)))).setCell O 12 _,(Rf.ints M.1 hE).setCell O 12 _,a0⟩
theorem MhY.gs' {p:Nat} {w W:Ad} {A C D X:Nat} {id f:Int} {g n c:Nat} {S:Nat->Sl} {u:Nat->Prop} {y:Sy} {H:OA} {B:Nat} {x:Sl} {m:Nat} {Y:Nat->Sy} {so:Aj} {q:Nat} (h:MhY p w W A C D X id f g n c S u y H B x m Y so q):g≠X/\g≠q:=by
 have j:u g:=by obtain⟨_,_,_,_,e,_,G,_⟩:=h.nw.o;cases e;exact G.head _ rfl
 exact⟨fun e=>h.l.2.2.2.2.2 e.symm,fun e=>h.fs (e▸j)⟩
theorem MhY.below {p:Nat} {w W W':Ad} {A C D X:Nat} {id f:Int} {g n c:Nat} {S:Nat->Sl} {L:Nat->Prop} {y:Sy} {M:OA} {J:Nat} {x:Sl} {m:Nat} {Y:Nat->Sy} {so:Aj} {K:Nat} (h:MhY p w W A C D X id f g n c S L y M J x m Y so K) (hb:Ab W W W'):MhY p w W' A C D X id f g n c S L y M J x m Y so K:=by
 obtain⟨O,u,j,c6,B,q,r,R,H,G,Z⟩:=h.rx;exact⟨h.nw.below hb,h.k.below hb,⟨O,u,j,c6,B,q,r.below hb r.lt,R.below hb,H.below hb,G.below hb,Z.kept h.gs'.1 h.gs'.2 (fun b hl _ _=>hb.block b hl)⟩,h.s.below hb,h.so,h.l,fun e=>(h.rg e).below hb (h.rg e).lt,h.sx,h.fs⟩
theorem MhY.cell {p:Nat} {w W:Ad} {A C D X:Nat} {id f:Int} {g n c:Nat} {S:Nat->Sl} {K:Nat->Prop} {y:Sy} {O:OA} {M:Nat} {x j:Sl} {m:Nat} {Y:Nat->Sy} {so:Aj} {H:Nat} (h:MhY p w W A C D X id f g n c S K y O M x m Y so H) (i:Nat) (v:Aj) (Z:∃ J B q c6 G u,Row (W.setCell (Q X i I) v) X 42 (slC j (V J j.p.m c6) (V B j.ze.length G) (V q j.zr.length u))/\Rf (W.setCell (Q X i I) v) (mhG w g X A D H) (txD j.p.m j.p.S) (V J j.p.m c6)/\Rf (W.setCell (Q X i I) v) (mhG w g X A D H) (inD j.ze) (V B j.ze.length G)/\Rf (W.setCell (Q X i I) v) (mhG w g X A D H) (inD j.zr) (V q j.zr.length u)/\MhO p w (W.setCell (Q X i I) v) A D X g H K S j (V J j.p.m c6) (V B j.ze.length G) (V q j.zr.length u)):MhY p w (W.setCell (Q X i I) v) A C D X id f g n c S K y O M j m Y so H:=by
 have hl:=h.l;have R:mhE w g X A D X:=.inr (.inl rfl);exact⟨⟨h.nw.r.other i _ (fun e=>hl.2.1 e.symm),h.nw.o.far i _ hl.2.2.2.2.1,h.nw.h1,⟨h.nw.b.1,by simpa using h.nw.b.2⟩,fun b L=>⟨(h.nw.l1 b L).1,by simpa using (h.nw.l1 b L).2⟩⟩,⟨h.k.rc.other i _ (fun e=>hl.2.2.1 e.symm),h.k.rd.other i _ (fun e=>hl.2.2.2.1 e.symm),vE h.k.b hl.1 i _⟩,Z,h.s.setCell R i _,h.so,hl,fun e=>(h.rg e).other i _ h.sx,h.sx,h.fs⟩
theorem MhY.readied {p:Nat} {w W:Ad} {A C D X:Nat} {id f:Int} {g n c:Nat} {S:Nat->Sl} {M:Nat->Prop} {y:Sy} {O:OA} {L:Nat} {x:Sl} {m:Nat} {Y:Nat->Sy} {so:Aj} {G:Nat} (h:MhY p w W A C D X id f g n c S M y O L x m Y so G):MhY p w (W.setCell (Q X 9 I) Aw) A C D X id f g n c S M y O L {x with d:=Aw} m Y so G:=by
 obtain⟨R,u,j,c6,H,q,r,Z,K,J,hO⟩:=h.rx;have B:mhG w g X A D G X:=.inl (.inr (.inl rfl));exact h.cell 9 _ ⟨R,u,j,c6,H,q,r.set 9 _,Z.setCell B 9 _,K.setCell B 9 _,J.setCell B 9 _,(hO.kept h.gs'.1 h.gs'.2 (fun b _ hb _=>Cn W (Q X 9 I) b _ (fun e=>hb e))).as rfl rfl rfl⟩
theorem MhY.done {p:Nat} {w W:Ad} {A C D X:Nat} {id f:Int} {g n c:Nat} {S:Nat->Sl} {M:Nat->Prop} {y:Sy} {O:OA} {L:Nat} {x:Sl} {m:Nat} {Y:Nat->Sy} {so:Aj} {G:Nat} (h:MhY p w W A C D X id f g n c S M y O L x m Y so G):MhY p w (W.setCell (Q X 10 I) Aw) A C D X id f g n c S M y O L {x with o:=Aw} m Y so G:=by
 obtain⟨R,u,j,c6,H,q,r,Z,K,J,hO⟩:=h.rx;have B:mhG w g X A D G X:=.inl (.inr (.inl rfl));exact h.cell 10 _ ⟨R,u,j,c6,H,q,r.set 10 _,Z.setCell B 10 _,K.setCell B 10 _,J.setCell B 10 _,(hO.kept h.gs'.1 h.gs'.2 (fun b _ hb _=>Cn W (Q X 10 I) b _ (fun e=>hb e))).as rfl rfl rfl⟩
theorem jAv {b1:Array Oper} {M:List Oper} {o:Oper} {a:Act} {Q:Exit->Act->Ad->Prop} (W:Ad) (b7:o.guard=I) (s z:Operand)
  (ho:o.op=.call {callee:=.builtin .append,args:=#[s,z],argTypes:=#[34,34]})
  {p:Nat} {w:Ad} {A C D X:Nat} {id f:Int} {g n c:Nat} {S:Nat->Sl} {F1:Nat->Prop} {y:Sy} {a9:OA} {c9:Nat} {x:Sl} {Y:Nat->Sy} {H:Nat} (h:MhY p w W A C D X id f g n c S F1 y a9 c9 x 0 Y (V H 0 0) H)
  (k:Int) (r:BA) (J g' c' B':Nat) (F':Nat->Prop) (hs:a.eval s=V H 0 0) (hz:a.eval z=V g' J c') (hO:Ow W B' (qI J (syA k id r)) (V g' J c') F') (hn:0<J) (d0:J<=10) (hw:w.1.size<=H)
  (hK:∀ g9 a5 w',MhY p w w' A C D X id f g n c S F1 y a9 c9 x J (syA k id r) (V (Addr.mk g9 0 I) J a5) H->wpList prog b1 Q M (a.put o.dst (V (Addr.mk g9 0 I) J a5)) w') :
  wpList prog b1 Q (o::M) a W:=by
 obtain⟨i0,Z,b2,b9,c1⟩:=Cg Tryz.infoSyZ;obtain⟨b0,cp,cc,G,e0,a0,c7,a4⟩:=hO;cases e0;have rg:=h.rg rfl;have a3:W.ownsRow H 31 10 (V H 0 0) 0 []:=⟨rfl,.inr ⟨H,0,#[],rfl,Ay _,rg,Ay _,by unfold Au;omega,rfl,rfl⟩⟩;have B:=a0.1;refine De W b7 s z 34 ho H 31 i0 (Ai zcY.toArray) 10 120 Dm Z b2 b9 c1 rfl (by decide) _ 0 [] hs a3 ⟨g',0,I⟩ J c' (cL 10 cc J) hz B ?_ ?_ hn (by unfold Au;omega) (by omega) (G9 rg.lt) W rfl fun g9 O w' h2 K h4 h5=>?_
 .intro j u hj;have b3:j<J*10:=by rw[<-B];exact(Ca.1 hj).1
  have:=Br a0 j b3
  rw[Addr.add_mid,Bt,this];exact hj
 .intro u hu;obtain⟨j,hj,rfl⟩:=D7.1 hu;rw[B] at hj;have a7:j / 10<J:=by omega
  have L:j % 10<10:=by omega
  have e1:=jU 10 cc J (j / 10) (j % 10) a7 L;have e2:j / 10*10+j % 10=j:=by omega
  rw[e2,Bj (by rw[B];exact hj)] at e1;injection e1 with e1;rw[e1];have R:=a4 (j / 10) (j % 10) a7 L;generalize hqq:j % 10=q at R L;generalize j / 10=i at R;match q,L with
  | 0,_|1,_|2,_|3,_|4,_|5,_|6,_|7,_|8,_=>rw[show cc i _=_ from R];rfl
  | 9,_=>obtain⟨_,_,_,_,e,_⟩:=R;rw[e];rfl
 rw[Bt,En] at h2;rw[Bt];have og:∀ k,k<W.1.size->k≠H->w'.1[k]?=W.1[k]?:=fun k hk f0=>K.block k hk (fun e=>f0 (by injection e))
 have a1:∀ {b:Nat} {t:TypeId} {cs:Array Aj},Row W b t cs->t≠31->b≠H:=fun hb ht e=>by
  subst e;have:=hb.symm.trans rg
  simp at this;exact ht this.2
 have a2:Ab w W w':=⟨K.os,K.tape,K.output,K.size,fun j hj=>og j (by have:=h.k.b.size;omega) (by omega)⟩;have nA:=a1 h.nw.r (by decide);have nD:=a1 h.k.rd (by decide);have nC:C≠H:=fun e=>by
  subst e;have:=h.k.rc.symm.trans rg
  simp at this
 have a8:F1 g:=by obtain⟨_,_,_,_,e,_,hs,_⟩:=h.nw.o;cases e;exact hs.head _ rfl
 have lg:=(h.nw.l1 g a8).2;obtain⟨a6,b4,b8,c6,c4,c0,r,h6,b6,b5,hO⟩:=h.rx;have nE:¬ mhE w g X A D g9:=fun k=>by
  rcases h4 with e|e
  .have e':H=g9:=by injection e
   subst e';rcases k with k|k|k|k
   .exact h.fs (k▸a8)
   .exact h.sx k
   .exact nA k.symm
   .rcases k with k|k
    .exact nD k.symm
    .omega
  .have l1:=h.nw.r.lt;have l2:=h.k.rd.lt;have l3:=r.lt;have l4:=h.k.b.size;rcases k with k|k|k|k <;> omega
 have ot:∀ b,¬ mhG w g X A D H b->b<W.1.size->w'.1[b]?=W.1[b]?:=fun b hb hl=>og b hl (fun e=>hb (.inr e))
 refine hK g9 O w' ⟨⟨(og A h.nw.r.lt nA).trans h.nw.r,h.nw.o.frame (fun b hF hl=>og b hl (fun e=>h.fs (e▸hF))),h.nw.h1,⟨h.nw.b.1,By h.nw.b.2 K.size⟩,fun b hF=>⟨(h.nw.l1 b hF).1,Bu (h.nw.l1 b hF).2 K.size⟩⟩,⟨(og C h.k.rc.lt nC).trans h.k.rc,(og D h.k.rd.lt nD).trans h.k.rd,h.k.b.trans a2⟩,⟨a6,b4,b8,c6,c4,c0,(og X r.lt h.sx.symm).trans r,h6.turn K.size ot,b6.turn K.size ot,b5.turn K.size ot,hO.kept h.gs'.1 h.gs'.2 (fun b hl _ hs=>og b hl hs)⟩,?_,fun e=>by omega,h.l,fun e=>by omega,h.sx,h.fs⟩;intro W' _ t';refine⟨some (Addr.mk g9 0 I),O,rfl,fun i Z=>⟨g9,0,rfl,fun q hq=>⟨cc i q,?_,?_⟩⟩⟩
 .rw[zU (t' g9 nE h5),Bt,Br h2 _ (qM Z hq)];exact jU _ _ _ _ _ Z hq
 .have R:=a4 i q Z hq;match q,hq with
  | 0,_|1,_|2,_|3,_|4,_|5,_|6,_|7,_|8,_=>exact R
  | 9,_=>obtain⟨a,cap,_,_,e,_⟩:=R;exact⟨a,cap,e,fun i Z=>Bo Z (Bk i)⟩
theorem jK0 {W:Ad} {X:Nat} {x:Sl} {C q j:OA} {c6 A u:Nat} (r:Row W X 42 (slC x (V C x.p.m c6) (V q x.ze.length A) (V j x.zr.length u))) (P:Pc) (D:OA) (B:Nat):Row (W.setCells X 1 [P.r,P.k,P.n,P.i,P.b,V D P.m B]) X 42 (slC {x with p:=P} (V D P.m B) (V q x.ze.length A) (V j x.zr.length u)):=by
 simp only[World.setCells];have M:Row (W.setCell (Q X 1 I) P.r) X 42 (slC {x with p:={x.p with r:=P.r}} (V C x.p.m c6) (V q x.ze.length A) (V j x.zr.length u)):=r.set 1 _;have L:Row ((W.setCell (Q X 1 I) P.r).setCell (Q X 2 I) P.k) X 42 (slC {x with p:={x.p with r:=P.r,k:=P.k}} (V C x.p.m c6) (V q x.ze.length A) (V j x.zr.length u)):=M.set 2 _;have J:Row (((W.setCell (Q X 1 I) P.r).setCell (Q X 2 I) P.k).setCell (Q X 3 I) P.n) X 42 (slC {x with p:={x.p with r:=P.r,k:=P.k,n:=P.n}} (V C x.p.m c6) (V q x.ze.length A) (V j x.zr.length u)):=L.set 3 _;have G:Row ((((W.setCell (Q X 1 I) P.r).setCell (Q X 2 I) P.k).setCell (Q X 3 I) P.n).setCell (Q X 4 I) P.i) X 42 (slC {x with p:={x.p with r:=P.r,k:=P.k,n:=P.n,i:=P.i}} (V C x.p.m c6) (V q x.ze.length A) (V j x.zr.length u)):=J.set 4 _;have K:Row (((((W.setCell (Q X 1 I) P.r).setCell (Q X 2 I) P.k).setCell (Q X 3 I) P.n).setCell (Q X 4 I) P.i).setCell (Q X 5 I) P.b) X 42 (slC {x with p:={x.p with r:=P.r,k:=P.k,n:=P.n,i:=P.i,b:=P.b}} (V C x.p.m c6) (V q x.ze.length A) (V j x.zr.length u)):=G.set 5 _;have H:Row ((((((W.setCell (Q X 1 I) P.r).setCell (Q X 2 I) P.k).setCell (Q X 3 I) P.n).setCell (Q X 4 I) P.i).setCell (Q X 5 I) P.b).setCell (Q X 6 I) (V D P.m B)) X 42 (slC {x with p:=P} (V D P.m B) (V q x.ze.length A) (V j x.zr.length u)):=K.set 6 _;exact H
theorem Row.there {W:Ad} {g:Nat} {t:TypeId} {cs:Array Aj} (h:Row W g t cs) {o n:Nat} (hn:o+n<=cs.size):W.there g o n:=fun j q=>⟨by have:=h.cell (o+j);rw[this];simp;omega,h.free (o+j)⟩
theorem MhY.got {p:Nat} {w W:Ad} {A C D X:Nat} {id f:Int} {g n c:Nat} {S:Nat->Sl} {R:Nat->Prop} {y:Sy} {Z:OA} {c9:Nat} {x:Sl} {m:Nat} {Y:Nat->Sy} {so:Aj} {M:Nat} (h:MhY p w W A C D X id f g n c S R y Z c9 x m Y so M) (P:Pc) (J:OA) (H:Nat) (hv:Rf W (mhG w g X A D M) (txD P.m P.S) (V J P.m H)) (O j q:OA) (c6 B u:Nat) (r:Row W X 42 (slC x (V O x.p.m c6) (V j x.ze.length B) (V q x.zr.length u))) (a1:Rf W (mhG w g X A D M) (inD x.ze) (V j x.ze.length B)) (a0:Rf W (mhG w g X A D M) (inD x.zr) (V q x.zr.length u)) (hO:MhO p w W A D X g M R S {x with p:=P} (V J P.m H) (V j x.ze.length B) (V q x.zr.length u)):MhY p w (((W.setCells X 1 [P.r,P.k,P.n,P.i,P.b,V J P.m H]).setCell (Q X 7 I) Aw).setCell (Q X 8 I) Aw) A C D X id f g n c S R y Z c9 {x with p:=P,h:=Aw,e:=Aw} m Y so M:=by
 have G:mhG w g X A D M X:=.inl (.inr (.inl rfl));have K:mhE w g X A D X:=.inr (.inl rfl);have hl:=h.l;simp only[World.setCells];have ne:∀ i (v:Aj) {W:Ad},Nw W w A id f g n c S R->Nw (W.setCell (Q X i I) v) w A id f g n c S R:=fun i v W k=>⟨k.r.other i _ (fun e=>hl.2.1 e.symm),k.o.far i _ hl.2.2.2.2.1,k.h1,⟨k.b.1,by simpa using k.b.2⟩,fun b hF=>⟨(k.l1 b hF).1,by simpa using (k.l1 b hF).2⟩⟩
 have L:∀ i (v:Aj) {W:Ad},MhC w W C D y Z c9->MhC w (W.setCell (Q X i I) v) C D y Z c9:=fun i v W k=>⟨k.rc.other i _ (fun e=>hl.2.2.1 e.symm),k.rd.other i _ (fun e=>hl.2.2.2.1 e.symm),vE k.b hl.1 i _⟩
 have r1:Row (W.setCell (Q X 1 I) P.r) X 42 (slC {x with p:={x.p with r:=P.r}} (V O x.p.m c6) (V j x.ze.length B) (V q x.zr.length u)):=r.set 1 _;have r2:Row ((W.setCell (Q X 1 I) P.r).setCell (Q X 2 I) P.k) X 42 (slC {x with p:={x.p with r:=P.r,k:=P.k}} (V O x.p.m c6) (V j x.ze.length B) (V q x.zr.length u)):=r1.set 2 _;have r3:Row (((W.setCell (Q X 1 I) P.r).setCell (Q X 2 I) P.k).setCell (Q X 3 I) P.n) X 42 (slC {x with p:={x.p with r:=P.r,k:=P.k,n:=P.n}} (V O x.p.m c6) (V j x.ze.length B) (V q x.zr.length u)):=r2.set 3 _;have r4:Row ((((W.setCell (Q X 1 I) P.r).setCell (Q X 2 I) P.k).setCell (Q X 3 I) P.n).setCell (Q X 4 I) P.i) X 42 (slC {x with p:={x.p with r:=P.r,k:=P.k,n:=P.n,i:=P.i}} (V O x.p.m c6) (V j x.ze.length B) (V q x.zr.length u)):=r3.set 4 _;have r5:Row (((((W.setCell (Q X 1 I) P.r).setCell (Q X 2 I) P.k).setCell (Q X 3 I) P.n).setCell (Q X 4 I) P.i).setCell (Q X 5 I) P.b) X 42 (slC {x with p:={x.p with r:=P.r,k:=P.k,n:=P.n,i:=P.i,b:=P.b}} (V O x.p.m c6) (V j x.ze.length B) (V q x.zr.length u)):=r4.set 5 _;have r6:Row ((((((W.setCell (Q X 1 I) P.r).setCell (Q X 2 I) P.k).setCell (Q X 3 I) P.n).setCell (Q X 4 I) P.i).setCell (Q X 5 I) P.b).setCell (Q X 6 I) (V J P.m H)) X 42 (slC {x with p:=P} (V J P.m H) (V j x.ze.length B) (V q x.zr.length u)):=r5.set 6 _;have r7:Row (((((((W.setCell (Q X 1 I) P.r).setCell (Q X 2 I) P.k).setCell (Q X 3 I) P.n).setCell (Q X 4 I) P.i).setCell (Q X 5 I) P.b).setCell (Q X 6 I) (V J P.m H)).setCell (Q X 7 I) Aw) X 42 (slC {x with p:=P,h:=Aw} (V J P.m H) (V j x.ze.length B) (V q x.zr.length u)):=r6.set 7 _
 have r8:Row ((((((((W.setCell (Q X 1 I) P.r).setCell (Q X 2 I) P.k).setCell (Q X 3 I) P.n).setCell (Q X 4 I) P.i).setCell (Q X 5 I) P.b).setCell (Q X 6 I) (V J P.m H)).setCell (Q X 7 I) Aw).setCell (Q X 8 I) Aw) X 42 (slC {x with p:=P,h:=Aw,e:=Aw} (V J P.m H) (V j x.ze.length B) (V q x.zr.length u)):=r7.set 8 _;refine⟨ne 8 _ (ne 7 _ (ne 6 _ (ne 5 _ (ne 4 _ (ne 3 _ (ne 2 _ (ne 1 _ (h.nw)))))))),L 8 _ (L 7 _ (L 6 _ (L 5 _ (L 4 _ (L 3 _ (L 2 _ (L 1 _ (h.k)))))))),⟨J,j,q,H,B,u,r8,((((((((hv.setCell G 1 _).setCell G 2 _).setCell G 3 _).setCell G 4 _).setCell G 5 _).setCell G 6 _).setCell G 7 _).setCell G 8 _),((((((((a1.setCell G 1 _).setCell G 2 _).setCell G 3 _).setCell G 4 _).setCell G 5 _).setCell G 6 _).setCell G 7 _).setCell G 8 _),((((((((a0.setCell G 1 _).setCell G 2 _).setCell G 3 _).setCell G 4 _).setCell G 5 _).setCell G 6 _).setCell G 7 _).setCell G 8 _),((hO.kept h.gs'.1 h.gs'.2 (fun b _ hb _=>(Cn _ (Q X 8 I) b _ (fun e=>hb e)).trans ((Cn _ (Q X 7 I) b _ (fun e=>hb e)).trans ((Cn _ (Q X 6 I) b _ (fun e=>hb e)).trans ((Cn _ (Q X 5 I) b _ (fun e=>hb e)).trans ((Cn _ (Q X 4 I) b _ (fun e=>hb e)).trans ((Cn _ (Q X 3 I) b _ (fun e=>hb e)).trans ((Cn _ (Q X 2 I) b _ (fun e=>hb e)).trans ((Cn _ (Q X 1 I) b _ (fun e=>hb e))))))))))).as rfl rfl rfl)⟩,((((((((h.s.setCell K 1 _).setCell K 2 _).setCell K 3 _).setCell K 4 _).setCell K 5 _).setCell K 6 _).setCell K 7 _).setCell K 8 _),h.so,hl,fun e=>(((((((((h.rg e).other 1 _ h.sx).other 2 _ h.sx).other 3 _ h.sx).other 4 _ h.sx).other 5 _ h.sx).other 6 _ h.sx).other 7 _ h.sx).other 8 _ h.sx),h.sx,h.fs⟩
end
noncomputable def mhB (id f:Int) (S:Nat->Sl) (p:Nat) (y:Sy):Bool:=decide (y.k=0)&&(!(S p).e&&vU y.r id f y.p.r y.p.k y.p.n y.p.i y.p.b y.p.m y.p.S)
def mhR (f:Int) (x:Sl):Bool:=!x.d&&(decide (2*f+1<=(x.ze.length:Int)) || decide (f+1<=(x.zr.length:Int)))
def mhU (f:Int) (x:Sl):Sl:=if mhR f x then {x with d:=Aw} else x
def mhV (f:Int) (x:Sl):Sl:=if 2*f+1<=(x.zr.length:Int) then {x with o:=Aw} else x
structure SlT (f:Int) (x:Sl):Prop where
 d:x.d=Av->(x.ze.length:Int)<2*f+1/\(x.zr.length:Int)<f+1
 o:x.o=Av->(x.zr.length:Int)<2*f+1
theorem jGw {id f:Int} {n:Nat} {S:Nat->Sl} {r:BA} (h:NdP id f n S):SlT f (slF S r n (plN S r n))/\(slF S r n (plN S r n)).r=r:=by
 have hf:=ZG h.1;rcases jGv S r n with ⟨_,k⟩|⟨k1,k,k2⟩
 .rw[k];refine⟨⟨fun _=>⟨?_,?_⟩,fun _=>?_⟩,rfl⟩ <;> (simp[slR];omega)
 .rw[k];have hs:=(h.2.2 _ k1).1;have h1:=hs.2.2.2.2.2.1;have h2:=hs.2.2.2.2.2.2.1;unfold stI at h1 h2;refine⟨⟨fun e=>?_,fun e=>?_⟩,k2⟩
  .rw[e] at h1;by_cases a:2*f+1<=(((S (plN S r n)).zr.length:Nat):Int)
   .rw[A6 a] at h1;exact Bo (h1 (by omega)) (by simp)
   rw[A5 a] at h1;by_cases b:2*f+1<=(((S (plN S r n)).ze.length:Nat):Int)
   .rw[A6 b] at h1;exact Bo (h1 (by omega)) (by simp)
   rw[A5 b] at h1;by_cases c:f+1<=(((S (plN S r n)).zr.length:Nat):Int)
   .rw[A6 c] at h1;exact Bo (h1 (by omega)) (by simp)
   exact⟨by omega,by omega⟩
  .rw[e] at h2;by_cases a:2*f+1<=(((S (plN S r n)).zr.length:Nat):Int)
   .rw[A6 a] at h2;exact Bo (h2 (by omega)) (by simp)
   omega
theorem jGd {f:Int} {x:Sl} (h:x.d=Av->(x.ze.length:Int)<2*f+1/\(x.zr.length:Int)<f+1):mhR f x=Av:=by
 unfold mhR;cases e:x.d with
 | true=>rfl
 | false=>
  have k:=h e;have k1:¬ 2*f+1<=(x.ze.length:Int):=by omega
  have k2:¬ f+1<=(x.zr.length:Int):=by omega
  simp[k1,k2]
theorem jBv {f:Int} {x:Sl} (h:x.o=Av->(x.zr.length:Int)<2*f+1):mhV f x=x:=by
 unfold mhV;split
 .rename_i k
  cases e:x.o with
  | true=>
   have e1:{x with o:=Aw}=x:=by rw[<-e]
   exact e1
  | false=>have:=h e;omega
 .rfl
theorem jLj {f:Int} (e r:Nat):(2<=stI f e r)=(2*f+1<=(r:Int)):=by
 unfold stI;by_cases a:2*f+1<=(r:Int)
 .rw[A6 a];simp[a]
 .rw[A5 a];by_cases b:2*f+1<=(e:Int)
  .rw[A6 b];simp[a]
  .rw[A5 b];by_cases c:f+1<=(r:Int)
   .rw[A6 c];simp[a]
   .rw[A5 c];simp[a]
theorem jLi {f:Int} (hf:1<=f) (e r:Nat):(1<=stI f e r)=(2*f+1<=(e:Int)\/f+1<=(r:Int)):=by
 unfold stI;by_cases a:2*f+1<=(r:Int)
 .have:f+1<=(r:Int):=by omega
  rw[A6 a];simp[this]
 .rw[A5 a];by_cases b:2*f+1<=(e:Int)
  .rw[A6 b];simp[b]
  .rw[A5 b];by_cases c:f+1<=(r:Int)
   .rw[A6 c];simp[c]
   .rw[A5 c];simp[b,c]
theorem jF9 {f:Int} {S:Nat->Sl} {p:Nat} {y:Sy} (hf:1<=f):hvR f S p y↔mhR f (hvA S p y p)=Aw:=by
 unfold hvR hvT mhR;rw[jLi hf];simp only[Cs,Em,Ed,Bool.not_eq_true'];exact⟨fun h=>⟨h.2,h.1⟩,fun h=>⟨h.2,h.1⟩⟩
theorem jF8 {id f:Int} {S:Nat->Sl} {p:Nat} {y:Sy} (k0:y.k=0):hvE id f S p y↔mhB id f S p y=Aw:=by
 unfold hvE mhB;rw[Bf k0];cases (S p).e <;> simp
theorem jGc {id f:Int} {S:Nat->Sl} {p:Nat} {y:Sy} (k0:¬ y.k=0):mhB id f S p y=Av:=by
 unfold mhB;rw[Bg k0];rfl
theorem jBw {S:Nat->Sl} {p:Nat} {y:Sy} (k0:¬ y.k=0) (hk:0<=y.k/\y.k<=2):mhx Av S p y=hvA S p y p:=by
 unfold mhx hvA;by_cases k1:y.k=1
 .simp[k1]
 .have k2:y.k=2:=by omega
  simp[k2]
theorem jGe {S:Nat->Sl} {p:Nat} {y:Sy} (k0:y.k=0):mhx Av S p y=S p:=by
 unfold mhx;simp[k0]
theorem jE0 {S:Nat->Sl} {p:Nat} {y:Sy}:mhx Aw S p y={S p with p:=y.p,h:=Aw,e:=Aw}:=by
 unfold mhx xJ;simp
theorem jC7 {S:Nat->Sl} {p i:Nat} {y:Sy} (h:¬ i=p):hvA S p y i=S i:=by
 unfold hvA jCm jEk;split <;> simp[h]
theorem jJ6 {id f:Int} {S:Nat->Sl} {p:Nat} {y:Sy} (hf:1<=f) (hk:0<=y.k/\y.k<=2) (hT:SlT f (S p)):(fun i=>if i=p then mhV f (mhU f (mhx (mhB id f S p y) S p y)) else S i)=hvS id f S p y:=by
 funext i
 by_cases k0:y.k=0
 .cases eb:mhB id f S p y with
  | true=>
   have he:=(jF8 k0).2 eb;unfold hvS;rw[A6 k0,A6 he,jE0];have e1:mhU f {S p with p:=y.p,h:=Aw,e:=Aw}={S p with p:=y.p,h:=Aw,e:=Aw}:=by
    unfold mhU;rw[jGd (x:={S p with p:=y.p,h:=Aw,e:=Aw}) hT.d];rfl
   rw[e1,jBv (x:={S p with p:=y.p,h:=Aw,e:=Aw}) hT.o];rfl
  | false=>
   have he:¬ hvE id f S p y:=fun h=>by rw[(jF8 k0).1 h] at eb;cases eb
   unfold hvS;rw[A6 k0,A5 he,jGe k0];have e1:mhU f (S p)=S p:=by
    unfold mhU;rw[jGd hT.d];rfl
   rw[e1,jBv hT.o];by_cases ei:i=p
   .rw[A6 ei,ei]
   .rw[A5 ei]
 .rw[jGc k0,jBw k0 hk];have hB:∀ j,hvB f S p y j=if j=p then mhV f (hvA S p y p) else S j:=by
   intro j;unfold hvB;by_cases k1:y.k=1
   .rw[A6 k1];have e2:mhV f (hvA S p y p)=hvA S p y p:=jBv (by
     have ea:hvA S p y=jCm S p (xM (S p).ze y.f):=by unfold hvA;rw[A6 k1]
     rw[ea];unfold jCm;simpa using hT.o)
    rw[e2];by_cases ej:j=p
    .rw[A6 ej,ej]
    .rw[A5 ej,jC7 ej]
   .rw[A5 k1];unfold XY;by_cases ej:j=p
    .rw[A6 ej,A6 ej];unfold mhV hvT;rw[show (decide (2<=stI f (hvA S p y p).ze.length (hvA S p y p).zr.length))=decide (2*f+1<=((hvA S p y p).zr.length:Int)) from by simp only[jLj]];by_cases a:2*f+1<=((hvA S p y p).zr.length:Int)
     .rw[A6 a,Bf a,Bool.or_true]
     .rw[A5 a,Bg a,Bool.or_false]
    .rw[A5 ej,A5 ej,jC7 ej]
  unfold hvS;rw[A5 k0];by_cases hR:hvR f S p y
  .rw[A6 hR];have r1:=(jF9 hf).1 hR;unfold jAr mhU;rw[r1];by_cases ei:i=p
   .rw[A6 ei,A6 ei,hB p,A6 rfl];unfold mhV;by_cases a:2*f+1<=((hvA S p y p).zr.length:Int)
    .simp only[C0,a]
    .simp only[C0,A5 a]
   .rw[A5 ei,A5 ei,hB i,A5 ei]
  .rw[A5 hR];have r1:mhR f (hvA S p y p)=Av:=by
    cases e:mhR f (hvA S p y p) with
    | false=>rfl
    | true=>exact Bo ((jF9 hf).2 e) hR
   unfold mhU;rw[r1,hB i];rfl
theorem jOa {id:Int} {S:Nat->Sl} {p:Nat} {y:Sy}:hvY id S p y=syA (if y.k=0 then 1 else 2) id (S p).r:=funext (jGa id S p y)
theorem jS4 {id f:Int} {S:Nat->Sl} {p:Nat} {y:Sy} (hT:SlT f (S p)) (k0:y.k=0):mhR f (mhx (mhB id f S p y) S p y)=Av:=by
 cases mhB id f S p y with
 | true=>rw[jE0];exact jGd (x:={S p with p:=y.p,h:=Aw,e:=Aw}) hT.d
 | false=>rw[jGe k0];exact jGd hT.d
theorem jJ5 {id f:Int} {S:Nat->Sl} {p:Nat} {y:Sy} (hf:1<=f) (hk:0<=y.k/\y.k<=2) (hT:SlT f (S p)) (hr:mhR f (mhx (mhB id f S p y) S p y)=Aw):mhB id f S p y=Av/\hvM id f S p y=zH f/\hvY id S p y=syA 2 id (S p).r:=by
 by_cases k0:y.k=0
 .rw[jS4 hT k0] at hr;cases hr
 .rw[jGc k0,jBw k0 hk] at hr;refine⟨jGc k0,?_,?_⟩
  .unfold hvM;rw[A5 k0,A6 ((jF9 hf).2 hr)]
  .rw[jOa,A5 k0]
theorem jMs {id f:Int} {S:Nat->Sl} {p:Nat} {y:Sy} (hb:mhB id f S p y=Aw):hvM id f S p y=zH f/\hvY id S p y=syA 1 id (S p).r:=by
 have k0:y.k=0:=by
  by_cases k0:y.k=0
  .exact k0
  .rw[jGc k0] at hb;cases hb
 constructor
 .unfold hvM;rw[A6 k0,A6 ((jF8 k0).2 hb)]
 .rw[jOa,A6 k0]
theorem jMt {id f:Int} {S:Nat->Sl} {p:Nat} {y:Sy} (hf:1<=f) (hk:0<=y.k/\y.k<=2) (hb:mhB id f S p y=Av) (hr:mhR f (mhx (mhB id f S p y) S p y)=Av):hvM id f S p y=0:=by
 unfold hvM;by_cases k0:y.k=0
 .rw[A6 k0,A5 (fun h=>by rw[(jF8 k0).1 h] at hb;cases hb)]
 .rw[A5 k0,A5 (fun h=>by rw[hb,jBw k0 hk,(jF9 hf).1 h] at hr;cases hr)]
theorem jP5 {b:Bool} {S:Nat->Sl} {p:Nat} {y:Sy} (h:HvK S p y):(mhx b S p y).ze.length<=1048576/\(mhx b S p y).zr.length<=1048576:=by
 have h1:=h.ze;have h2:=h.zr;have hp:∀ zs:List Int,(xM zs y.f).length<=zs.length+1:=fun zs=>jGo zs y.f
 unfold mhx;split
 .unfold xJ;simp;omega
 .split
  .unfold jCm;simp;have:=hp (S p).ze;omega
  .split
   .unfold jEk;simp;have:=hp (S p).zr;omega
   .omega
theorem jQh {W W2:Ad} {B g n cap:Nat} {S:Nat->Sl} {F:Nat->Prop} (h:Ow W B (qH n S) (V g n cap) F) {p:Nat} (hp:p<n) (x:Sl) (vs:List Aj) (hl:vs.length=13) (hg:W2.1[g]?=(W.setCells g (p*13) vs).1[g]?) (hF:∀ b,F b->b≠g->b<W.1.size->W2.1[b]?=W.1[b]?) (hv:∀ q,q<13->Rd W2 (slD x q) (vs.getD q O)):Rd W2 (qH n (fun i=>if i=p then x else S i)) (V g n cap):=by
 obtain⟨a,a0,c,G,e,ho,hs,hr⟩:=h;cases e;have e0:=qJ hp vs 0 W c (by omega) ho;rw[Cp] at e0;refine⟨M (Q g 0 I),cap,rfl,fun i hi=>⟨g,0,rfl,fun q hq=>?_⟩⟩;refine⟨_,by rw[zU hg,Bt,Br e0 _ (qM hi hq)];exact jU _ _ _ _ _ hi hq,?_⟩;by_cases ei:i=p
 .rw[A6 ⟨ei,Bi _⟩];show Rd _ (slD (if i=p then x else S i) q) _;rw[A6 ei];exact hv q hq
 .rw[A5 (fun k=>ei k.1)];show Rd _ (slD (if i=p then x else S i) q) _;rw[A5 ei];exact((hr i q hi hq).frame (fun b hb hl=>hF b (hs.sub i q b hi hq hb) (fun e=>hs.apart i q _ hi hq rfl (e▸hb)) hl)).rd
theorem Nw.there {W:Ad} {B Nb:Nat} {id f:Int} {g n cap:Nat} {S:Nat->Sl} {F1:Nat->Prop} (h:Nw W B Nb id f g n cap S F1) {p:Nat} (hp:p<n):W.there g (p*13) 13:=by
 obtain⟨a',b0,c',G',e',a0,_⟩:=h.o;cases e';intro j hj;refine⟨?_,B0 a0 _⟩;rw[Br a0 _ (qM hp hj),jU _ _ _ _ _ hp hj];rfl
structure MhF (w W1 W2:Ad) (A D:Nat) (id f:Int) (g n c:Nat) (S:Nat->Sl) (m:Nat) (Y:Nat->Sy) (so:Aj):Prop where
 ra:Row W1 A 26 #[id,f,V g n c]
 rd:Row W1 D 26 #[(),(),V I 0 0]
 rd2:Row W2 D 26 #[id,f,V g n c]
 l:Rf W2 (fun b=>b<w.1.size) (qH n S) (V g n c)
 s:Rf W2 (fun b=>b<w.1.size) (qI m Y) so
 b:Ab w w W2
 o:∃ F,Ow W2 w (qH n S) (V g n c) F
theorem MhY.fin {p:Nat} {w W:Ad} {A C D X:Nat} {id f:Int} {g n c:Nat} {S:Nat->Sl} {F1:Nat->Prop} {y:Sy} {a9:OA} {c9:Nat} {x:Sl} {m:Nat} {Y:Nat->Sy} {so:Aj} {gs:Nat} (h:MhY p w W A C D X id f g n c S F1 y a9 c9 x m Y so gs) (j0:¬ F1 D) (hD:w.1.size<=D) (hp:p<n) (a6 a0 b0:OA) (c6 c0 e0:Nat) (h6:Rf W (mhG w g X A D gs) (txD x.p.m x.p.S) (V a6 x.p.m c6)) (p0:Rf W (mhG w g X A D gs) (inD x.ze) (V a0 x.ze.length c0)) (q0:Rf W (mhG w g X A D gs) (inD x.zr) (V b0 x.zr.length e0)) (hO:MhO p w W A D X g gs F1 S x (V a6 x.p.m c6) (V a0 x.ze.length c0) (V b0 x.zr.length e0)) (W1 W2:Ad) (e1:W1=W.setCells g (p*13) (slL x (V a6 x.p.m c6) (V a0 x.ze.length c0) (V b0 x.zr.length e0))) (e2:W2=W1.setRow D #[id,f,V g n c]):MhF w W1 W2 A D id f g n c (fun i=>if i=p then x else S i) m Y so:=by
 have i0:F1 g:=by obtain⟨_,_,_,_,e,_,hs,_⟩:=h.nw.o;cases e;exact hs.head _ rfl
 have gA:A≠g:=fun e=>h.nw.h1 (e▸i0)
 have gD:D≠g:=fun e=>j0 (e▸i0)
 have t1:∀ b,b≠g->W1.1[b]?=W.1[b]?:=fun b hb=>by rw[e1];exact jG g _ _ W b hb
 have t2:∀ b,b≠D->W2.1[b]?=W1.1[b]?:=fun b hb=>by rw[e2];exact Cd _ _ _ _ hb
 have s1:W1.1.size=W.1.size:=by rw[e1];exact jQ _ _ _ _
 have s2:W.1.size<=W2.1.size:=by rw[e2];simp[s1]
 have tA:∀ W':Ad,(∀ b,¬ b<w.1.size->b<W2.1.size->W'.1[b]?=W2.1[b]?)->∀ b,b≠g->b≠D->¬ b<w.1.size->b<W.1.size->W'.1[b]?=W.1[b]?:=fun W' h2 b h3 h4 h5 h6=>((h2 b h5 (by omega)).trans (t2 b h4)).trans (t1 b h3)
 have tG:∀ W':Ad,(∀ b,¬ b<w.1.size->b<W2.1.size->W'.1[b]?=W2.1[b]?)->∀ b,¬ mhG w g X A D gs b->b<W.1.size->W'.1[b]?=W.1[b]?:=fun W' h2 b hb=>tA W' h2 b (fun e=>hb (.inl (.inl e))) (fun e=>hb (.inl (.inr (.inr (.inr (.inl e)))))) (fun e=>hb (.inl (.inr (.inr (.inr (.inr e))))))
 have tE:∀ W':Ad,(∀ b,¬ b<w.1.size->b<W2.1.size->W'.1[b]?=W2.1[b]?)->∀ b,¬ mhE w g X A D b->b<W.1.size->W'.1[b]?=W.1[b]?:=fun W' h2 b hb=>tA W' h2 b (fun e=>hb (.inl e)) (fun e=>hb (.inr (.inr (.inr (.inl e))))) (fun e=>hb (.inr (.inr (.inr (.inr e)))))
 have o0:Row W1 D 26 #[(),(),V I 0 0]:=(t1 D gD).trans h.k.rd;have lg:=h.nw.l1 g i0;refine⟨(t1 A gA).trans h.nw.r,o0,by rw[e2];exact o0.row,?_,fun W' q1 q2=>h.s W' (By s2 q1) (tE W' q2),?_,?_⟩
 .intro W' q1 q2;refine jQh h.nw.o hp x (slL x (V a6 x.p.m c6) (V a0 x.ze.length c0) (V b0 x.zr.length e0)) rfl (by rw[<-e1];exact(q2 g (by omega) (by omega)).trans (t2 g (fun e=>gD e.symm))) (fun b hb r0 hl=>tA W' q2 b r0 (fun e=>j0 (e▸hb)) (by have:=(h.nw.l1 b hb).1;omega) hl) (fun q hq=>?_);match q,hq with
  | 0,_|1,_|2,_|3,_|4,_|5,_|7,_|8,_|9,_|10,_=>exact rfl
  | 6,_=>exact h6 W' (By s2 q1) (tG W' q2)
  | 11,_=>exact p0 W' (By s2 q1) (tG W' q2)
  | 12,_=>exact q0 W' (By s2 q1) (tG W' q2)
 .rw[e2,e1];exact jF (jR h.k.b (h.nw.l1 g i0).1 _ _) hD _
 .obtain⟨H6,g0,h0,l6,k0,m0,d1,d2,d3⟩:=hO.ex;have nH:∀ {o:Nat} {d0 d:Dt} {v:Aj} {H:Nat->Prop},Lo w W A D X g gs F1 o d0 d v H->∀ b,H b->¬ mhG w g X A D gs b:=fun l b hb=>by
   rcases l with ⟨_,_,k⟩|⟨_,k⟩
   .exact Bo hb (k b)
   .exact(k b hb).2
  have f0:∀ {o:Nat} {d0 d:Dt} {v:Aj} {H:Nat->Prop},Lo w W A D X g gs F1 o d0 d v H->(d=d0/\W.cell? (Q g o I)=M v)\/(Ow W w d v H/\∀ b,H b->¬ F1 b):=fun l=>by
   rcases l with ⟨k1,k2,_⟩|⟨k1,k2⟩
   .exact .inl ⟨k1,k2⟩
   .exact .inr ⟨k1,fun b hb=>(k2 b hb).1⟩
  have put:=Ow.put (d:=slD x) (H:=fun q b=>(q=6/\H6 b)\/(q=11/\g0 b)\/(q=12/\h0 b)) (F':=fun b=>F1 b\/H6 b\/g0 b\/h0 b) (vs:=slL x (V a6 x.p.m c6) (V a0 x.ze.length c0) (V b0 x.zr.length e0)) h.nw.o hp rfl (fun q hq=>by
   have mono:∀ {d:Dt} {v:Aj} {H H':Nat->Prop},Ow W w d v H->(∀ b,H b->H' b)->Ow W w d v H':=fun k kk=>k.mono kk
   match q,hq with
   | 0,_|1,_|2,_|3,_|4,_|5,_|7,_|8,_|9,_|10,_=>exact .inr ⟨rfl,fun b k=>by rcases k with ⟨k,_⟩|⟨k,_⟩|⟨k,_⟩ <;> omega⟩
   | 6,_=>
    rcases f0 l6 with k|⟨k1,k2⟩
    .exact .inl k
    .exact .inr ⟨mono k1 (fun b kb=>.inl ⟨rfl,kb⟩),fun b k=>by rcases k with ⟨_,k⟩|⟨k,_⟩|⟨k,_⟩;exact k2 b k;omega;omega⟩
   | 11,_=>
    rcases f0 k0 with k|⟨k1,k2⟩
    .exact .inl k
    .exact .inr ⟨mono k1 (fun b kb=>.inr (.inl ⟨rfl,kb⟩)),fun b k=>by rcases k with ⟨k,_⟩|⟨_,k⟩|⟨k,_⟩;omega;exact k2 b k;omega⟩
   | 12,_=>
    rcases f0 m0 with k|⟨k1,k2⟩
    .exact .inl k
    .exact .inr ⟨mono k1 (fun b kb=>.inr (.inr ⟨rfl,kb⟩)),fun b k=>by rcases k with ⟨k,_⟩|⟨k,_⟩|⟨_,k⟩;omega;omega;exact k2 b k⟩)
   (fun q q' b _ _ k k'=>by
    rcases k with ⟨e,k⟩|⟨e,k⟩|⟨e,k⟩ <;> rcases k' with ⟨e',k'⟩|⟨e',k'⟩|⟨e',k'⟩
    .omega
    .exact Bo k' (d1 b k)
    .exact Bo k' (d2 b k)
    .exact Bo k (d1 b k')
    .omega
    .exact Bo k' (d3 b k)
    .exact Bo k (d2 b k')
    .exact Bo k (d3 b k')
    .omega)
   (fun b k=>.inl k) (fun q b _ k=>by rcases k with ⟨_,k⟩|⟨_,k⟩|⟨_,k⟩;exact .inr (.inl k);exact .inr (.inr (.inl k));exact .inr (.inr (.inr k)))
  refine⟨(fun b=>F1 b\/H6 b\/g0 b\/h0 b),?_⟩;have n0:Ow W1 w (qH n (fun i=>if i=p then x else S i)) (V g n c) (fun b=>F1 b\/H6 b\/g0 b\/h0 b):=by
   rw[e1];refine put.congr fun i q _ _=>?_
   by_cases ei:i=p
   .simp only[ei,C0]
   .simp only[ei,Dj]
  have mD:mhG w g X A D gs D:=.inl (.inr (.inr (.inr (.inl rfl))));exact n0.frame fun b hb _=>t2 b (fun e=>by
   subst e;rcases hb with k|k|k|k
   .exact j0 k
   .exact nH l6 _ k mD
   .exact nH k0 _ k mD
   .exact nH m0 _ k mD)
theorem jLz {g h:Nat->Nat} {p c:Nat} (hg:∀ i,i≠p->g i<=h i) (hp:g p<=h p+c) (n:Nat):tot g n<=tot h n+(if p<n then c else 0):=by
 induction n with
 | zero=>simp[tot]
 | succ n ih=>
  show tot g n+g n<=tot h n+h n+_;by_cases e:n=p
  .subst e;rw[A5 (Fo n)] at ih;rw[A6 (Gi n)];omega
  .have:=hg n e
   by_cases k:p<n
   .rw[A6 k] at ih;rw[A6 (by omega)];omega
   .rw[A5 k] at ih;rw[A5 (by omega)];omega
theorem jCf {g h:Nat->Nat} {n:Nat} (hg:∀ i,i<n->g i=h i):tot g n=tot h n:=by
 induction n with
 | zero=>rfl
 | succ n ih=>
  show tot g n+g n=tot h n+h n;rw[ih (fun i hi=>hg i (by omega)),hg n (by omega)]
theorem jMu (f:Int) (x:Sl):(mhV f (mhU f x)).p.m=x.p.m/\(mhV f (mhU f x)).ze.length=x.ze.length/\(mhV f (mhU f x)).zr.length=x.zr.length:=by
 unfold mhV mhU;split <;> split <;> exact⟨rfl,rfl,rfl⟩
theorem jJ7 (b:Bool) (T:Nat->Sl) (p:Nat) (y:Sy):((mhx b T p y).p.m<=(T p).p.m\/(mhx b T p y).p.m=y.p.m)/\(mhx b T p y).ze.length<=(T p).ze.length+1/\(mhx b T p y).zr.length<=(T p).zr.length+1:=by
 have hp:∀ zs:List Int,(xM zs y.f).length<=zs.length+1:=fun zs=>jGo zs y.f
 unfold mhx;split
 .unfold xJ;simp
 .split
  .unfold jCm;simp;exact hp _
  .split
   .unfold jEk;simp;exact hp _
   .exact⟨.inl (Ay _),by omega,by omega⟩
structure NhL (N:Nat) (SG:Nat->Sl) (m:Nat) (YG:Nat->Sy) (t:Nat):Prop where
 n:N<=1048576
 s:∀ i,i<N->SlS (SG i)
 w:tot (fun i=>wkS (SG i)) N<=t+1048600
 m:m<=10
 p:∀ i,(YG i).p.m=0
theorem jQq (S:Nat->Sl) (r:BA) (n:Nat):tot (fun i=>wkS (slF S r n i)) (hrN S r n)<=tot (fun i=>wkS (S i)) n+10:=by
 have e:tot (fun i=>wkS (slF S r n i)) n=tot (fun i=>wkS (S i)) n:=jCf (fun i hi=>by unfold slF;rw[A5 (by omega)]);unfold hrN;split
 .omega
 .show tot (fun i=>wkS (slF S r n i)) n+wkS (slF S r n n)<=_;rw[e];have:wkS (slF S r n n)=10:=by unfold slF;rw[A6 rfl];rfl
  omega
theorem jKb {id f:Int} {n:Nat} {S:Nat->Sl} {y:Sy} (hB:NhB n S y):NhL (nhN id f n S y) (nhS id f n S y) (nhM id f n S y) (nhY id f n S y) (tot (fun i=>wkS (S i)) n):=by
 cases eb:nhB id f n S y with
 | false=>
  simp only[nhN,nhS,nhM,nhY,eb];exact⟨hB.kn,fun i hi=>(hB.k i hi).s,by simp,by simp,fun i=>rfl⟩
 | true=>
  have e1:ndB id f n S=Aw:=by unfold nhB at eb;simp at eb;exact eb.1
  have e2:vL id f n S y=Aw:=by unfold nhB at eb;simp at eb;exact eb.2
  have hP:=jDk e1;have hM:=QR e2;have hf:=ZG hP.1;have hK:=jJp (y:=y) hB hP;obtain⟨hT,_⟩:=jGw (r:=y.r) hP;have hS:=jJ6 (id:=id) (y:=y) hf.1 hM.2.2.1 hT;simp only[nhN,nhS,nhM,nhY,eb,C0];have hn:=hP.2.1;have hN:hrN S y.r n<=n+1:=by unfold hrN;split <;> omega
  have hx:=jMu f (mhx (mhB id f (slF S y.r n) (plN S y.r n) y) (slF S y.r n) (plN S y.r n) y);have hy:=jJ7 (mhB id f (slF S y.r n) (plN S y.r n) y) (slF S y.r n) (plN S y.r n) y;have hz:=hK.ze;have b0:=hK.zr;have hm:=hB.m;have a0:(slF S y.r n (plN S y.r n)).p.m<=1048576:=by
   rcases jGv S y.r n with ⟨_,k⟩|⟨k1,k,_⟩
   .rw[k];simp[slR]
   .rw[k];exact(hB.k _ k1).m
  refine⟨by omega,?_,?_,?_,?_⟩
  .rw[<-hS];intro i hi;show SlS (if i=plN S y.r n then mhV f (mhU f (mhx (mhB id f (slF S y.r n) (plN S y.r n) y) (slF S y.r n) (plN S y.r n) y)) else slF S y.r n i);by_cases ei:i=plN S y.r n
   .rw[A6 ei];exact⟨by rcases hy.1 with k|k <;> omega,by omega,by omega⟩
   .rw[A5 ei];rcases Fz i n with k|k
    .have:slF S y.r n i=S i:=by unfold slF;rw[A5 (by omega)]
     rw[this];exact(hB.k i k).s
    .have:slF S y.r n i=slR y.r:=by unfold slF;rw[A6 (by omega)]
     rw[this];exact⟨by simp[slR],by simp[slR],by simp[slR]⟩
  .rw[<-hS];show tot (fun i=>wkS (if i=plN S y.r n then mhV f (mhU f (mhx (mhB id f (slF S y.r n) (plN S y.r n) y) (slF S y.r n) (plN S y.r n) y)) else slF S y.r n i)) (hrN S y.r n)<=_;have h1:=jLz (g:=fun i=>wkS (if i=plN S y.r n then mhV f (mhU f (mhx (mhB id f (slF S y.r n) (plN S y.r n) y) (slF S y.r n) (plN S y.r n) y)) else slF S y.r n i)) (h:=fun i=>wkS (slF S y.r n i)) (p:=plN S y.r n) (c:=1048578) (fun i hi=>by simp only[A5 hi];exact Ay _) (by
    simp only[C0];unfold wkS;rcases hy.1 with k|k <;> omega) (hrN S y.r n)
   have h2:=jQq S y.r n;have h3:(if plN S y.r n<hrN S y.r n then 1048578 else 0)<=1048578:=by split <;> omega
   omega
  .have h3:=vM hf;unfold hvM;split <;> split <;> omega
  .intro i;rw[jGa];rfl
theorem ZD.lt {f:Int} {zs:List Int} (h:ZD f zs) (i:Nat):∀ d,i+(d+1)<zs.length->zs.getD i 0<zs.getD (i+(d+1)) 0:=by
 intro d;induction d with
 | zero=>
  intro hi;have h2:=(h (i+1) hi).2 (by omega);simpa using h2
 | succ j ih=>
  intro hi;have h1:=ih (by omega);have h2:=(h (i+(j+1+1)) hi).2 (by omega);have e:i+(j+1+1)-1=i+(j+1):=by omega
  rw[e] at h2;omega
theorem jMv {f:Int} {zs:List Int}:ZD f zs↔(∀ y∈zs,0<=y/\y<3*f+1)/\zs.Pairwise (.<.):=by
 constructor
 .intro h;refine⟨fun y hy=>?_,?_⟩
  .obtain⟨i,hi,rfl⟩:=D7.1 hy;have:=(h i hi).1
   rw[Bx,Bj hi] at this;simp at this;omega
  .rw[Ep];intro i j hi hj b0;have:=h.lt i (j-i-1) (by omega)
   have e:i+(j-i-1+1)=j:=by omega
   rw[e] at this;simpa [List.getD_eq_getElem?_getD,Bj hi,Bj hj] using this
 .rintro⟨h1,h2⟩ i hi;rw[Ep] at h2;have e1:zs.getD i 0=zs[i]:=by rw[Bx,Bj hi];rfl
  refine⟨?_,fun h0=>?_⟩
  .have:=h1 _ (List.getElem_mem hi)
   rw[e1];exact⟨by omega,by omega⟩
  .have a0:i-1<zs.length:=by omega
   have e2:zs.getD (i-1) 0=zs[i-1]:=by rw[Bx,Bj a0];rfl
   rw[e1,e2];exact h2 (i-1) i a0 hi (by omega)
theorem jI8 {zs:List Int} (h:zs.Pairwise (.<.)) (x:Int):(∀ y∈zs.take (jBn zs x),y<x)/\∀ y∈zs.drop (jBn zs x),x<=y:=by
 induction zs with
 | nil=>simp
 | cons a t ih=>
  rw[List.pairwise_cons] at h;obtain⟨a0,b0⟩:=ih h.2;by_cases ha:a<x
  .have e:jBn (a::t) x=jBn t x+1:=by unfold jBn;rw[List.countP_cons];simp[ha]
   rw[e];refine⟨fun y hy=>?_,fun y hy=>?_⟩
   .rw[List.take_succ_cons,G0] at hy;rcases hy with rfl|hy
    .exact ha
    .exact a0 y hy
   .rw[List.drop_succ_cons] at hy;exact b0 y hy
  .have e0:jBn t x=0:=by
    unfold jBn;rw[List.countP_eq_zero];intro y hy;have:=h.1 y hy
    simp
    omega
   have e:jBn (a::t) x=0:=by unfold jBn at e0 |-;rw[List.countP_cons,e0];simp[ha]
   rw[e];refine⟨fun y hy=>by simp at hy,fun y hy=>?_⟩;rw[List.drop_zero,G0] at hy;rcases hy with rfl|hy
   .omega
   .have:=h.1 y hy
    omega
theorem jKv {f x:Int} {zs:List Int} (h:ZD f zs) (hx:x = -1\/(0<=x/\x<3*f+1)):ZD f (xM zs x):=by
 unfold xM;split
 .exact h
 .rename_i hn
  rw[jMv] at h |-;obtain⟨h1,h2⟩:=h;obtain⟨c1,c2⟩:=jI8 h2 x;have b0:x≠-1:=fun e=>hn (.inl e)
  have hm:x∉zs:=fun e=>hn (.inr e)
  refine⟨fun y hy=>?_,?_⟩
  .rw[Fh,G0] at hy;rcases hy with hy|rfl|hy
   .exact h1 y (List.mem_of_mem_take hy)
   .omega
   .exact h1 y (List.mem_of_mem_drop hy)
  .have a0:(zs.take (jBn zs x)++zs.drop (jBn zs x)).Pairwise (.<.):=by rw[List.take_append_drop];exact h2
   rw[List.pairwise_append] at a0 |-;refine⟨a0.1,?_,fun y hy z hz=>?_⟩
   .rw[List.pairwise_cons];refine⟨fun y hy=>?_,a0.2.1⟩;have:=c2 y hy
    have:x≠y:=fun e=>hm (e▸List.mem_of_mem_drop hy)
    omega
   .rw[G0] at hz;rcases hz with rfl|hz
    .exact c1 y hy
    .exact a0.2.2 y hy z hz
theorem jSh {id f:Int} {r:BA} (hf:1<=f/\f<=3) (hr:r.size=16):zC id f (slR r):=by
 have h0:ZD f []:=fun i hi=>Bo hi (Bk i)
 have hs:stI f 0 0=0:=by
  unfold stI;rw[A5 (by omega),A5 (by omega),A5 (by omega)]
 refine⟨hr,JJ h0,JJ h0,fun e=>Bo e (by simp[slR]),fun e=>Bo e (by simp[slR]),fun e=>?_,fun e=>?_,?_⟩
 .have:stI f (slR r).ze.length (slR r).zr.length=0:=hs
  rw[this] at e;omega
 .have:stI f (slR r).ze.length (slR r).zr.length=0:=hs
  rw[this] at e;omega
 .show Av=vU r id f Ap 0 0 0 Ap 0 (fun _=>Ap);rw[xA];intro h;have:=h.2.1
  omega
theorem jLg {id f:Int} {n:Nat} {S:Nat->Sl} {r:BA} (h:NdP id f n S) (hr:r.size=16):zC id f (slF S r n (plN S r n)):=by
 rcases jGv S r n with ⟨_,k⟩|⟨k1,k,_⟩
 .rw[k];exact jSh (ZG h.1) hr
 .rw[k];exact(h.2.2 _ k1).1
theorem jOg {f:Int} {x:Sl} (hf:1<=f):(mhV f (mhU f x)).d=(x.d || mhR f x)/\(mhV f (mhU f x)).o=(x.o || decide (2*f+1<=(x.zr.length:Int)))/\(mhV f (mhU f x)).r=x.r/\(mhV f (mhU f x)).p=x.p/\(mhV f (mhU f x)).h=x.h/\(mhV f (mhU f x)).e=x.e/\(mhV f (mhU f x)).ze=x.ze/\(mhV f (mhU f x)).zr=x.zr:=by
 have _:=hf;have hz:(mhU f x).zr=x.zr:=by unfold mhU;split <;> rfl
 unfold mhV;rw[hz];by_cases a:2*f+1<=(x.zr.length:Int)
 .rw[A6 a,Bf a,Bool.or_true];unfold mhU;split
  .rename_i h;simp[h]
  .rename_i h;simp at h;simp[h]
 .rw[A5 a,Bg a,Bool.or_false];unfold mhU;split
  .rename_i h;simp[h]
  .rename_i h;simp at h;simp[h]
theorem jNm {id f:Int} {x:Sl} (hf:1<=f/\f<=3) (hr:x.r.size=16) (he:ZD f x.ze) (hz:ZD f x.zr) (h1:x.e=Aw->x.h=Aw) (h2:x.o=Aw->x.d=Aw) (hm:x.h=vU x.r id f x.p.r x.p.k x.p.n x.p.i x.p.b x.p.m x.p.S):zC id f (mhV f (mhU f x)):=by
 obtain⟨d1,d2,d3,d4,d5,d6,d7,d8⟩:=jOg (x:=x) hf.1;refine⟨by rw[d3];exact hr,by rw[d7];exact JJ he,by rw[d8];exact JJ hz,fun e=>?_,fun e=>?_,fun e=>?_,fun e=>?_,?_⟩
 .rw[d6] at e;rw[d5];exact h1 e
 .rw[d2,Em] at e;rw[d1,Em];rcases e with e|e
  .exact .inl (h2 e)
  .have e':=Dn e;cases hd:x.d with
   | true=>exact .inl rfl
   | false=>right;unfold mhR;rw[hd,Bf (show f+1<=(x.zr.length:Int) by omega)];simp
 .rw[d7,d8,jLi hf.1] at e;rw[d1,Em];cases hd:x.d with
  | true=>exact .inl rfl
  | false=>
   right
   unfold mhR;rw[hd];rcases e with e|e
   .rw[Bf e];rfl
   .rw[Bf e];simp
 .rw[d7,d8,jLj] at e;rw[d2,Bf e,Bool.or_true]
 .rw[d5,d3,d4];exact hm
theorem jJ8 {id f:Int} {T:Nat->Sl} {p:Nat} {y:Sy} (hx:zC id f (T p)) (hr:(T p).r=y.r) (hy:y.f = -1\/(0<=y.f/\y.f<3*f+1)):(mhx (mhB id f T p y) T p y).r=(T p).r/\ZD f (mhx (mhB id f T p y) T p y).ze/\ZD f (mhx (mhB id f T p y) T p y).zr/\((mhx (mhB id f T p y) T p y).e=Aw->(mhx (mhB id f T p y) T p y).h=Aw)/\((mhx (mhB id f T p y) T p y).o=Aw->(mhx (mhB id f T p y) T p y).d=Aw)/\(mhx (mhB id f T p y) T p y).h=vU (T p).r id f (mhx (mhB id f T p y) T p y).p.r (mhx (mhB id f T p y) T p y).p.k (mhx (mhB id f T p y) T p y).p.n (mhx (mhB id f T p y) T p y).p.i (mhx (mhB id f T p y) T p y).p.b (mhx (mhB id f T p y) T p y).p.m (mhx (mhB id f T p y) T p y).p.S:=by
 obtain⟨x1,x2,x3,x4,x5,x6,x7,x8⟩:=hx;have n2:=XI x2;have n3:=XI x3;cases eb:mhB id f T p y with
 | true=>
  rw[jE0];have hm:vU y.r id f y.p.r y.p.k y.p.n y.p.i y.p.b y.p.m y.p.S=Aw:=by
   unfold mhB at eb;rw[Cs,Cs] at eb;exact eb.2.2
  exact⟨rfl,n2,n3,fun _=>rfl,x5,by rw[hr];exact hm.symm⟩
 | false=>
  unfold mhx;rw[A5 (by simp)];split
  .unfold jCm;simp only[C0];exact⟨trivial,jKv n2 hy,n3,x4,x5,x8⟩
  .split
   .unfold jEk;simp only[C0];exact⟨trivial,n2,jKv n3 hy,x4,x5,x8⟩
   .exact⟨rfl,n2,n3,x4,x5,x8⟩
theorem jR0 {id f:Int} {T:Nat->Sl} {p:Nat} {y:Sy} (hf:1<=f/\f<=3) (hx:zC id f (T p)) (hr:(T p).r=y.r) (hy:y.f = -1\/(0<=y.f/\y.f<3*f+1)):zC id f (mhV f (mhU f (mhx (mhB id f T p y) T p y))):=by
 obtain⟨h1,h2,h3,h4,h5,h6⟩:=jJ8 hx hr hy;exact jNm hf (by rw[h1];exact hx.1) h2 h3 h4 h5 (by rw[h1];exact h6)
theorem jS6 {id f:Int} {n:Nat} {S:Nat->Sl} {y:Sy} (h:NdP id f n S):NdP id f (nhN id f n S y) (nhS id f n S y):=by
 cases eb:nhB id f n S y with
 | false=>simp only[nhN,nhS,eb];exact h
 | true=>
  have e2:vL id f n S y=Aw:=by unfold nhB at eb;simp at eb;exact eb.2
  have hM:=QR e2;have hf:=ZG h.1;obtain⟨hT,a0⟩:=jGw (r:=y.r) h;have hS:=jJ6 (id:=id) (y:=y) hf.1 hM.2.2.1 hT;have f0:=jR0 hf (jLg h hM.2.2.2.1) a0 hM.2.1;have g0:(mhV f (mhU f (mhx (mhB id f (slF S y.r n) (plN S y.r n) y) (slF S y.r n) (plN S y.r n) y))).r=y.r:=by
   rw[(jOg hf.1).2.2.1,(jJ8 (jLg h hM.2.2.2.1) a0 hM.2.1).1,a0]
  simp only[nhN,nhS,eb,C0];rw[<-hS];have hN:hrN S y.r n=n/\plN S y.r n<n\/hrN S y.r n=n+1/\plN S y.r n=n/\(∀ i,i<n->(S i).r≠y.r):=by
   unfold hrN plN;cases e:plc S y.r n with
   | none=>right;exact⟨by simp,rfl,fun i hi=>ZK e i (by omega) (by omega)⟩
   | some x=>
    obtain⟨_,hx,_,_⟩:=xC e;left
    exact⟨by simp,by simpa using hx⟩
  have b0:∀ i,i<hrN S y.r n->(if i=plN S y.r n then mhV f (mhU f (mhx (mhB id f (slF S y.r n) (plN S y.r n) y) (slF S y.r n) (plN S y.r n) y)) else slF S y.r n i).r=(slF S y.r n i).r:=fun i hi=>by
   by_cases ei:i=plN S y.r n
   .rw[A6 ei,g0,ei,a0]
   .rw[A5 ei]
  refine⟨h.1,?_,fun i hi=>⟨?_,fun j hj=>?_⟩⟩
  .have:=h.2.1
   rcases hN with hN|hN
   .omega
   .have d0:=hM.2.2.2.2;rcases d0 with k|k
    .omega
    .unfold plX at k;have e:plc S y.r n=I:=by
      have h3:=hN.1;unfold hrN at h3;cases e:plc S y.r n with
      | none=>rfl
      | some x=>rw[e] at h3;simp at h3
     rw[e] at k;simp at k
  .show zC id f (if i=plN S y.r n then _ else slF S y.r n i);by_cases ei:i=plN S y.r n
   .rw[A6 ei];exact f0
   .rw[A5 ei];have c0:i<n:=by rcases hN with hN|hN <;> omega
    have:slF S y.r n i=S i:=by unfold slF;rw[A5 (by omega)]
    rw[this];exact(h.2.2 i c0).1
  .show (if j=plN S y.r n then _ else slF S y.r n j).r≠(if i=plN S y.r n then _ else slF S y.r n i).r;rw[b0 j (by omega),b0 i hi];have e0:j<n:=by rcases hN with hN|hN <;> omega
   have ej:slF S y.r n j=S j:=by unfold slF;rw[A5 (by omega)]
   rw[ej];by_cases ein:i=n
   .have ei:slF S y.r n i=slR y.r:=by unfold slF;rw[A6 ein]
    rw[ei];rcases hN with hN|hN
    .omega
    .exact hN.2.2 j e0
   .have ei:slF S y.r n i=S i:=by unfold slF;rw[A5 ein]
    rw[ei];have c0:i<n:=by rcases hN with hN|hN <;> omega
    exact(h.2.2 i c0).2 j hj
theorem jSx {s:BA} {f:Int} (h:brB s f=Aw):1<=f/\f<=3:=by
 unfold brB fB at h;rw[Cs] at h;exact Dn h.1
theorem jRg {s:BA} {f:Int} (h:brB s f=Aw):vK s (f+1) (3*f+1)=Aw:=by
 unfold brB at h;rw[Cs] at h;exact h.2
theorem jN5 {s:BA} {f:Int} (h:brB s f=Aw):lvB (zH f) (lvs (f+1) (zH f) (ZE s (f+1).toNat))=Aw:=by
 have hf:=jSx h;have hn:=vM hf;unfold lvB;rw[Cs];refine⟨jCq (fun i hi=>?_),?_⟩
 .unfold lvs;obtain⟨k,hk⟩:∃ k:Nat,f+1=(k:Int):=⟨(f+1).toNat,by omega⟩;rw[hk,jE7 _ (by omega) (by omega) (by omega)];exact Gt.lf_size _
 .unfold inB;exact Bf (by omega)
theorem jRh {s:BA} {f:Int} (h:brB s f=Aw) {i:Nat} (hi:i<zH f):pfB (zH f) (lvs (f+1) (zH f) (ZE s (f+1).toNat)) (i:Int)=Aw:=by
 have hf:=jSx h;have hn:=vM hf;unfold pfB;rw[Cs];exact⟨jN5 h,by unfold inT;exact Bf (by omega)⟩
theorem jPk {s:BA} {f:Int} (h:brB s f=Aw) (i:Nat):(brP s f i).r.size=16:=by
 show (rtS (zH f) (lvs (f+1) (zH f) (ZE s (f+1).toNat))).size=16;have hl:=jN5 h;obtain⟨h1,h2,h3⟩:=vF hl;unfold rtS;rw[A6 hl];exact Gt.rt_size (by omega) h3
theorem jL8 {s:BA} {f:Int} (h:brB s f=Aw) {i:Nat} (hi:i<zH f) (S:Nat->Sl):NhB 0 S (brS s f i):=by
 have he:=jRg h;have b0:=jPk h i;have hm:(brP s f i).m<=16:=jOu _ _ _;refine⟨by omega,fun j hj=>Bo hj (Bk j),?_,?_,?_,?_,fun j hj=>?_⟩
 .show (brP s f i).r.size<=_;omega
 .show (brP s f i).m<=_;omega
 .show (brP s f i).r.size<=_;omega
 .have:=jEq he i
  show (ZE s (f+1).toNat i).size<=_;omega
 .have hB:=jRh h hi;obtain⟨h1,h2⟩:=jAk hB;have h3:=vF h1;have a0:j<pfR (zH f) (lvs (f+1) (zH f) (ZE s (f+1).toNat)) (i:Int):=hj;unfold pfR at a0;rw[A6 hB] at a0;have:(pfF (zH f) (lvs (f+1) (zH f) (ZE s (f+1).toNat)) (i:Int) j).size=16:=Gt.pf_size _ (by simpa using hi) h3.2.2 j a0
  show (pfF (zH f) (lvs (f+1) (zH f) (ZE s (f+1).toNat)) (i:Int) j).size<=_;omega
theorem jP9 {id f:Int} {n:Nat} {S:Nat->Sl} {y:Sy} (h:NdP id f n S) {i:Nat} (hi:i<nhM id f n S y):(nhY id f n S y i).f=id/\(nhY id f n S y i).r=y.r/\(nhY id f n S y i).k≠0/\(nhY id f n S y i).t=(i:Int)/\(i:Int)<3*f+1:=by
 cases eb:nhB id f n S y with
 | false=>simp only[nhM,eb] at hi;exact Bo hi (by simp)
 | true=>
  have hf:=ZG h.1;have hn:=vM hf;obtain⟨_,a0⟩:=jGw (r:=y.r) h;have eM:nhM id f n S y=hvM id f (slF S y.r n) (plN S y.r n) y:=by simp only[nhM,eb,C0]
  have eY:nhY id f n S y=hvY id (slF S y.r n) (plN S y.r n) y:=by simp only[nhY,eb,C0]
  have b0:hvM id f (slF S y.r n) (plN S y.r n) y<=zH f:=by
   unfold hvM;split <;> split <;> omega
  rw[eY,jGa];refine⟨rfl,a0,?_,rfl,by omega⟩;show (if y.k=0 then (1:Int) else 2)≠0;split <;> omega
theorem jQp {n:Nat} {S:Nat->Sl} {r:BA} (hS:∀ i,i<n->SlK (S i)) (hr:r.size<=1048576) {i:Nat} (hi:i<=n):SlK (slF S r n i):=by
 unfold slF;by_cases e:i=n
 .rw[A6 e];exact⟨hr,by simp[slR],by simp[slR],by simp[slR],fun j hj=>Bo hj (Bk j),by simp[slR],by simp[slR]⟩
 .rw[A5 e];exact hS i (by omega)
theorem jR1 {id f:Int} {n:Nat} {S:Nat->Sl} {y:Sy} (hB:NhB n S y):∀ i,i<nhN id f n S y->SlK (nhS id f n S y i):=by
 intro i hi;cases eb:nhB id f n S y with
 | false=>
  have e1:nhN id f n S y=n:=by simp only[nhN,eb];rfl
  have e2:nhS id f n S y=S:=by simp only[nhS,eb];rfl
  rw[e2];exact hB.k i (by omega)
 | true=>
  have e1:ndB id f n S=Aw:=by unfold nhB at eb;simp at eb;exact eb.1
  have e2:vL id f n S y=Aw:=by unfold nhB at eb;simp at eb;exact eb.2
  have hN:=jDk e1;have hM:=QR e2;have hf:=ZG hN.1;have eS:nhS id f n S y=hvS id f (slF S y.r n) (plN S y.r n) y:=by simp only[nhS,eb,C0]
  have eN:nhN id f n S y=hrN S y.r n:=by simp only[nhN,eb,C0]
  have g0:∀ j,j<hrN S y.r n->j<=n:=fun j hj=>by unfold hrN at hj;split at hj <;> omega
  have hT:∀ j,j<hrN S y.r n->SlK (slF S y.r n j):=fun j hj=>jQp hB.k hB.r (g0 j hj)
  have hp:=jKs S y.r n;obtain⟨_,q2,q3,_⟩:=jLg (r:=y.r) hN hM.2.2.2.1;have l2:=ZD.len (XI q2) hf;have l3:=ZD.len (XI q3) hf;have p2:=jGp (slF S y.r n (plN S y.r n)).ze y.f;have p3:=jGp (slF S y.r n (plN S y.r n)).zr y.f;have d0:=hT i (by rw[<-eN];exact hi);have a0:=hT _ hp;rw[eS];obtain⟨T,HT⟩:∃ x,x=slF S y.r n:=⟨_,rfl⟩;obtain⟨p,HP⟩:∃ x,x=plN S y.r n:=⟨_,rfl⟩;rw[<-HT,<-HP] at a0 p2 p3 l2 l3;rw[<-HT] at d0;rw[<-HT,<-HP];have f0:∀ j,SlK (T j)->SlK (hvA T p y j):=fun j hj=>by
   by_cases k1:y.k=1
   .by_cases ei:j=p
    .have e9:hvA T p y j={T p with ze:=xM (T p).ze y.f}:=by unfold hvA jCm;simp[k1,ei]
     rw[e9];exact⟨a0.1,a0.2,a0.3,a0.4,a0.5,by show (xM (T p).ze y.f).length<=1048576;omega,a0.7⟩
    .have e9:hvA T p y j=T j:=by unfold hvA jCm;simp[k1,ei]
     rw[e9];exact hj
   .by_cases ei:j=p
    .have e9:hvA T p y j={T p with zr:=xM (T p).zr y.f}:=by unfold hvA jEk;simp[k1,ei]
     rw[e9];exact⟨a0.1,a0.2,a0.3,a0.4,a0.5,a0.6,by show (xM (T p).zr y.f).length<=1048576;omega⟩
    .have e9:hvA T p y j=T j:=by unfold hvA jEk;simp[k1,ei]
     rw[e9];exact hj
  have hA:=f0 i d0;have b0:=f0 p a0;have e0:∀ j,SlK (hvA T p y j)->SlK (hvB f T p y j):=fun j hj=>by
   by_cases k1:y.k=1
   .have e9:hvB f T p y j=hvA T p y j:=by unfold hvB;simp[k1]
    rw[e9];exact hj
   .by_cases ei:j=p
    .have e9:hvB f T p y j={hvA T p y p with o:=(hvA T p y p).o || decide (2<=hvT f T p y)}:=by unfold hvB XY;simp[k1,ei]
     rw[e9];exact⟨b0.1,b0.2,b0.3,b0.4,b0.5,b0.6,b0.7⟩
    .have e9:hvB f T p y j=hvA T p y j:=by unfold hvB XY;simp[k1,ei]
     rw[e9];exact hj
  have c0:=e0 p b0;by_cases k0:y.k=0
  .by_cases hE:hvE id f T p y
   .by_cases ei:i=p
    .have e9:hvS id f T p y i={T p with p:=y.p,h:=Aw,e:=Aw}:=by unfold hvS xJ;simp[k0,hE,ei]
     rw[e9];exact⟨a0.1,hB.pr,hB.pb,hB.m,hB.ps,a0.6,a0.7⟩
    .have e9:hvS id f T p y i=T i:=by unfold hvS xJ;simp[k0,hE,ei]
     rw[e9];exact d0
   .have e9:hvS id f T p y i=T i:=by unfold hvS;simp[k0,hE]
    rw[e9];exact d0
  .by_cases hR:hvR f T p y
   .by_cases ei:i=p
    .have e9:hvS id f T p y i={hvB f T p y p with d:=Aw}:=by unfold hvS jAr;simp[k0,hR,ei]
     rw[e9];exact⟨c0.1,c0.2,c0.3,c0.4,c0.5,c0.6,c0.7⟩
    .have e9:hvS id f T p y i=hvB f T p y i:=by unfold hvS jAr;simp[k0,hR,ei]
     rw[e9];exact e0 i hA
   .have e9:hvS id f T p y i=hvB f T p y i:=by unfold hvS;simp[k0,hR]
    rw[e9];exact e0 i hA
end Go.Proofs.YtcaejlalnjnifaaGreat
