import Derived.Test.YtcaejlalnjnifaaGreatP24
import Derived.Test.YtcaejlalnjnifaaGreatP25
set_option maxHeartbeats 8000000
set_option maxRecDepth 2000
open Go.Value renaming slice->V,string->Ag,tuple->Ah,agg->Ai,int->Ao,oneCell'->Aq
open Option renaming none->I,some->M
open Go.RowKit renaming Hid->H,Below->Ab
open Go.Addr renaming mk->Q
open Go renaming undef->O,World->Ad,Value->Aj,Calls->Ak,Addr->Al,maxLen->Au
open Go.Obj renaming cells->J
open Go.Ending renaming returned->Ae
open ByteArray renaming empty->Ap
open Go.IntKind renaming i64->Ar
open Bool renaming false->Av,true->Aw
open Go.Proofs.Tryz
open Go.ChangeShapes Go.WideShapes Go.ChangeAt Go.RowKit
namespace Go.Proofs.YtcaejlalnjnifaaGreat
theorem Row.keptG {w w':Ad} {g G:Nat} {t:TypeId} {cs:Array Aj} (h:Row w G t cs) (hg:w.grownBy w' (M g)) (a0:G≠g):Row w' G t cs:=(hg.block G h.lt (fun e=>a0 (by cases e;rfl))).trans h
def slZ:Sl:=⟨Ap,⟨Ap,0,0,0,Ap,0,fun _=>Ap⟩,Av,Av,Av,Av,[],[]⟩
def zcS:List Aj:=[Ag Ap,Ag Ap,Ao Ar 0,Ao Ar 0,Ao Ar 0,Ag Ap,V I 0 0,.bool Av,.bool Av,.bool Av,.bool Av,V I 0 0,V I 0 0]
theorem Tryz.infoSlZ:(Tryz.prog.info? 42).map (fun i=>(i.zero,i.size,i.bytes))=M (M (Ai zcS.toArray),13,152):=by kernel_rfl
def H3 (g6 g11 g12 q x:Nat):Prop:=(q=6/\x=g6)\/(q=11/\x=g11)\/(q=12/\x=g12)
theorem jPu {w:Ad} {B g6 a0 b0:Nat} {s:Sl} {v6 c0 d0:Aj} (h6:Ow w B (txD s.p.m s.p.S) v6 (fun g=>g=g6)) (e0:Ow w B (inD s.ze) c0 (fun g=>g=a0)) (f0:Ow w B (inD s.zr) d0 (fun g=>g=b0)) (q:Nat) (hq:q<13):Ow w B (slD s q) ((slC s v6 c0 d0).toList.getD q O) (H3 g6 a0 b0 q):=by
 match q,hq with
 | 0,_|1,_|2,_|3,_|4,_|5,_|7,_|8,_|9,_|10,_=>rfl
 | 6,_=>exact Ow.mono h6 fun g hg=>.inl ⟨rfl,hg⟩
 | 11,_=>exact Ow.mono e0 fun g hg=>.inr (.inl ⟨rfl,hg⟩)
 | 12,_=>exact Ow.mono f0 fun g hg=>.inr (.inr ⟨rfl,hg⟩)
theorem jOb (w:Ad) (B q:Nat) (hq:q<13):Ow w B (slD slZ q) (zcS.getD q O) (fun _=>False):=by
 match q,hq with
 | 0,_|1,_|2,_|3,_|4,_|5,_|7,_|8,_|9,_|10,_=>rfl
 | 6,_=>exact Ow.nil _ _ _ _ _ _
 | 11,_=>exact Ow.nil _ _ _ _ _ _
 | 12,_=>exact Ow.nil _ _ _ _ _ _
theorem jLi (a:OA) (n cap:Nat) (S:Nat->Sl) (w:Ad) (h:Rd w (qG n S) (V a n cap)) (hn:n<=1048576) (hs:∀ i,i<n->SlS (S i)):Ak prog 173 #[V a n cap] w fun e w'=>e=Ae (V (Q w 0 I) n n)/\Ow w' w (qG n S) (V (Q w 0 I) n n) (rng w w'.1.size)/\Ab w w w':=by
 obtain⟨i0,hi,s0,t0,u0⟩:=Ch Tryz.infoSlZ;have KH:H (Rd w (qG n S) (V a n cap)):=h;have HS:H (∀ i,i<n->SlS (S i)):=hs;clear h hs;go_enter func173,ntmps173
 go_wp2_with (at_make;refine Cx _ rfl _ _ 24 rfl w 42 i0 (Ai zcS.toArray) 13 underlying24 hi s0 t0 Ar Ar _ _ n rfl rfl rfl rfl (by rw[u0];omega) (by unfold Au;omega) (Ay _) ?_;intro w1 a0 c0)
 have hb1:Ab w w w1:=(Az _ _).grown c0 (Ay _) (by simp);obtain⟨g,HG⟩:=nmH w.1.size;have ho1:Ow w1 w (.lst 42 13 n (fun i=>if i<0 then slD (S i) else slD slZ)) (V g n n) (rng w w1.1.size):=by
  have e:(madeCells (Ai zcS.toArray).cells (n*13)).toList=cL 13 (fun _ q=>zcS.getD q O) n:=xS (zs:=zcS) (by simp[zcS]);rw[e] at a0;rw[HG.out];have:=XG (F:=rng w w1.1.size) a0 (fun q hq=>jOb w1 w q hq) ⟨Ay _,(A0 a0 _ rfl).2⟩
  exact this.congr (fun i q _ _=>by simp)
 have gB:g=w.1.size:=HG.out;rw[<-HG.out];have HB:H (w.1.size<=g):=by show _<=_;omega
 clear a0 c0 gB;go_loopw [4] (fun i wr=>∃ k:Nat,k<=n/\i=Ao Ar k/\Ow wr w (.lst 42 13 n (fun i=>if i<k then slD (S i) else slD slZ)) (V g n n) (rng w wr.1.size)/\Ab w w wr) (fun i _=>n-(intOf i).toNat)
 case atStart=>exact⟨0,Bi _,rfl,ho1,hb1⟩
 case round=>
  obtain⟨c,hc,rfl,a0,b0⟩:=hrel;clear ho1 hb1;by_cases hlt:c<n
  .have z0:(c:Int)<(n:Int):=by omega
   obtain⟨b1,f1,y1,p6,v0,w0,q6,x0,y0,rfl,m0,e1,o0,n0,g0⟩:=vI (KH.below b0) hlt;have h0:=jNk (S c) p6 v0 w0 q6 x0 y0 wr o0 n0 g0 (HS c hlt);rw[<-e1] at h0;have KT:H _:=h0;clear h0;obtain⟨_,x⟩:=zU (sz:=12) wr (Az _ _) m0;have R1:H (wr.rangeAt b1 (f1+c*13) [y1 0,y1 1,y1 2,y1 3,y1 4,y1 5,y1 6,y1 7,y1 8,y1 9,y1 10,y1 11,y1 12]):=jAh x;have KO:H (Ow wr w (.lst 42 13 n (fun i=>if i<c then slD (S i) else slD slZ)) (V g n n) (rng w wr.1.size)/\Ab w w wr):=⟨a0,b0⟩;have lg:g<wr.1.size:=by
    obtain⟨a',k0,c',G',e',f0,_⟩:=a0;cases e';exact(A0 f0 g rfl).2
   clear m0 e1 o0 n0 g0 x b0 a0;go_wp2_with (refine Bv rfl 228 _ rfl b1 (f1+c*13) rfl [y1 0,y1 1,y1 2,y1 3,y1 4,y1 5,y1 6,y1 7,y1 8,y1 9,y1 10,y1 11,y1 12] _ ?_ underlying228 rfl Tryz.infoSlL ?_;exact R1)
   refine Ax KT.out ?_;rintro e w2 ⟨g6,d0,e0,rfl,l1,l2,l3,l4,o6,p0,q0,b2⟩;have O2:=KO.1.below b2;have TH:H (w2.there g (c*13) 13):=by
    obtain⟨a',k0,c',G',e',f0,_⟩:=O2;cases e';intro j hj;refine⟨?_,B0 f0 _⟩;rw[Bt f0 _ (qM hlt hj),jT _ _ _ _ _ hlt hj];rfl
   have j0:=KO.2.size;have HO:H (Ow (w2.setCells g (c*13) (slC (S c) (V g6 (S c).p.m (S c).p.m) (V d0 (S c).ze.length (S c).ze.length) (V e0 (S c).zr.length (S c).zr.length)).toList) w (.lst 42 13 n (fun i=>if i<c+1 then slD (S i) else slD slZ)) (V g n n) (rng w (w2.setCells g (c*13) (slC (S c) (V g6 (S c).p.m (S c).p.m) (V d0 (S c).ze.length (S c).ze.length) (V e0 (S c).zr.length (S c).zr.length)).toList).1.size)):=by
    rw[jO];refine Ow.congr (Ow.store (d:=slD (S c)) O2 hlt rfl (fun q hq=>jPu (o6.base j0) (p0.base j0) (q0.base j0) q hq) ?_ ?_ ?_ ?_) ?_
    .intro q x _ hx hf;have h2:=hf.2;rcases hx with ⟨_,rfl⟩|⟨_,rfl⟩|⟨_,rfl⟩ <;> omega
    .intro q q' x _ _ hx r0;rcases hx with ⟨_,rfl⟩|⟨_,rfl⟩|⟨_,rfl⟩ <;> rcases r0 with ⟨_,h⟩|⟨_,h⟩|⟨_,h⟩ <;> omega
    .intro x hx;have:=b2.size
     exact⟨hx.1,by have:=hx.2;omega⟩
    .intro q x _ hx;rcases hx with ⟨_,rfl⟩|⟨_,rfl⟩|⟨_,rfl⟩ <;> exact⟨by omega,by omega⟩
    .intro i q _ _;by_cases e:i=c
     .subst e;simp
     .by_cases e2:i<c
      .simp[e,e2,show i<c+1 by omega]
      .simp[e,e2,show ¬ i<c+1 by omega]
   have HBe:H (Ab w w (w2.setCells g (c*13) (slC (S c) (V g6 (S c).p.m (S c).p.m) (V d0 (S c).ze.length (S c).ze.length) (V e0 (S c).zr.length (S c).zr.length)).toList)):=jP (jA KO.2 b2) HB _ _;clear O2 b2 o6 p0 q0 KT R1 KO;go_wp2_with (refine Dd rfl 42 _ _ rfl g (c*13) (slC (S c) (V g6 (S c).p.m (S c).p.m) (V d0 (S c).ze.length (S c).ze.length) (V e0 (S c).zr.length (S c).zr.length)) rfl rfl ?_ Tryz.infoSl (by simp[Aq]) ?_;exact TH)
   go_roundw
   case rel=>exact⟨c+1,by omega,by go_num,HO.out,HBe.out⟩
   case measure=>simp[intOf];omega
  .obtain rfl:c=n:=by omega
   have HO:H (Ow wr w (qG c S) (V g c c) (rng w wr.1.size)):=a0.congr (fun i q hi _=>by simp[hi]);clear a0;go_wp2
   go_ret
   exact⟨by rw[<-HG.out];rfl,by rw[<-HG.out];rw[HG.out];have:=HO.out;rw[HG.out] at this;exact this,b0⟩
theorem jNh (id f:Int) (a:OA) (n cap:Nat) (S:Nat->Sl) (w:Ad) (h:Rd w (qG n S) (.slice a n cap)) (hn:n<=1048576) (hs:∀ i,i<n->SlS (S i)):Ak prog 144 #[Ai #[id,f,.slice a n cap]] w fun e w'=>∃ g,e=Ae (Ai #[id,f,.slice (Q g 0 I) n n])/\Ow w' w (qG n S) (.slice (Q g 0 I) n n) (rng w w'.1.size)/\Ab w w w':=by
 obtain⟨A,HA⟩:=nmH w.1.size;obtain⟨D,HD⟩:=nmH (w.1.size+1);obtain⟨V,HV⟩:=nmH (w.1.size+1+1);obtain⟨w0,d0⟩:=nmH (((w.alloc (J #[id,f,.slice a n cap] 190)).alloc (J #[(),(),.slice I 0 0] 26)).alloc (J #[id,f,.slice I 0 0] 26));have RD:=xL d0 HD;have RV:=xR d0 HV;have f0:=bl3 d0;have c0:H (V≠D/\w.1.size<=D/\w.1.size<=V/\V<w0/\D<w0):=by
  have h1:=HV.out;have h2:=HD.out;exact⟨by omega,by omega,by omega,RV.out.lt,RD.out.lt⟩
 have e0:=hd f0;have KT:H _:=jLi a n cap S w0 (h.below f0) hn hs;obtain⟨g,HG⟩:=nmH w0.1.size;go_enter func144,ntmps144
 go_wp2_with fail
 rw[<-d0.out,<-HV.out,<-HD.out,<-HA.out];refine Ax KT.out ?_;rintro e w1 ⟨rfl,O1,b1⟩;rw[<-HG.out] at O1;rw[<-HG.out];rw[HG.out] at O1;have V1:=RV.below b1 RV.lt;have D1:=hd (RD.below b1 RD.lt);have y2:=V1.cell 2;have f2:=V1.free 2;simp at y2;obtain⟨w2,a0⟩:=nmH (w1.setCell (Q V 2 I) (.slice (Q g 0 I) n n));have V2:H (Row w2 V 26 #[id,f,.slice (Q g 0 I) n n]):=by show Row _ _ _ _;rw[a0.out];exact V1.set 2 _
 have D2:H (Row w2 D 26 #[(),(),.slice I 0 0]):=by show Row _ _ _ _;rw[a0.out];exact D1.other 2 _ (Ci c0.1)
 obtain⟨w3,b0⟩:=nmH (w2.setRow D #[id,f,.slice (Q g 0 I) n n]);have D3:=rr b0 D2;have B3:H (Ab w w w3):=by
  show Ab _ _ _;rw[b0.out,a0.out];exact jG (Bn (jA e0 b1) c0.2.2.1 _) c0.2.1 _
 have O3:H (Ow w3 w (qG n S) (.slice (Q g 0 I) n n) (rng w w3.1.size)):=by
  have h1:w3.1.size=w1.1.size:=by rw[b0.out,a0.out];simp
  have h2:=e0.size;have h3:=(O1.base h2).frame (w':=w3) (fun x hx _=>by
   have l1:=hx.1;have l2:=c0.2.2.2.1;have l3:=c0.2.2.2.2;rw[b0.out,Cj _ _ _ _ (by omega),a0.out];exact Ck w1 (Q V 2 I) x _ (by show x≠V;omega))
  rw[HG.out];exact h3.mono (fun x hx=>⟨by have:=hx.1;omega,by have:=hx.2;omega⟩)
 go_wp2_with (first|(rw[<-a0.out];refine Bg rfl 26 _ rfl V rfl 26 _ (0,0) _ V2 Cg rfl Tryz.infoNd ?_;clear y2 f2)|(refine Ca rfl 26 _ _ rfl D #[id,f,.slice (M ⟨g,0,I⟩) n n] rfl rfl 26 #[(),(),.slice I 0 0] ?_ Tryz.infoNd rfl (by simp[Aq]) ?_;exact D2;rw[<-b0.out]))
 refine B7 (v:=Ai #[id,f,.slice (Q g 0 I) n n]) (Cs results144 _ _ D 26 _ (0,0) _ rfl D3 Cg rfl Tryz.infoNd) rfl ⟨g,rfl,O3,B3⟩
theorem jIs (c:Nat->Nat->Aj) (n:Nat):cL 10 c (n+1)=cL 10 c n++[c n 0,c n 1,c n 2,c n 3,c n 4,c n 5,c n 6,c n 7,c n 8,c n 9]:=by
 apply Cn
 intro j;by_cases hj:j<n*10
 .rw[Ea (by rw[jY];omega)];have h1:=jT 10 c (n+1) (j / 10) (j % 10) (by omega) (by omega);have h2:=jT 10 c n (j / 10) (j % 10) (by omega) (by omega);rw[vA] at h1 h2;rw[h1,h2]
 .rw[Ds (by rw[jY];omega),jY];by_cases h6:j<(n+1)*10
  .obtain⟨q,rfl⟩:∃ q,j=n*10+q:=⟨j-n*10,by omega⟩;have u:q<10:=by omega
   rw[jT _ _ _ _ _ (by omega) u,show n*10+q-n*10=q by omega];match q,u with
   | 0,_|1,_|2,_|3,_|4,_|5,_|6,_|7,_|8,_|9,_=>rfl
  .rw[Bb (by rw[jY];omega),Bb (by simp;omega)]
noncomputable def brP (s:BA) (f:Int):Nat->Pc:=jLp (f+1) (3*f+1).toNat (XY s (f+1).toNat)
noncomputable def brS (s:BA) (f:Int) (i:Nat):Sy:=⟨0,-1,(i:Int),(brP s f i).r,brP s f i⟩
def brB (s:BA) (f:Int):Bool:=fB f&&vJ s (f+1) (3*f+1)
def brN (s:BA) (f:Int):Nat:=if brB s f then (3*f+1).toNat else 0
noncomputable def brR (s:BA) (f:Int):BA:=if brB s f then (brP s f 0).r else Ap
theorem jQw (s:BA) (f:Int) (i:Nat):(brP s f i).r=(brP s f 0).r:=rfl
noncomputable def syc (s:BA) (f:Int) (A:Nat->OA) (C:Nat->Nat) (i q:Nat):Aj:=(syC (brS s f i) (V (A i) (brP s f i).m (C i))).toList.getD q O
theorem jQa (s:BA) (f:Int) (A:Nat->OA) (C:Nat->Nat) (i:Nat):[syc s f A C i 0,syc s f A C i 1,syc s f A C i 2,syc s f A C i 3,syc s f A C i 4,syc s f A C i 5,syc s f A C i 6,syc s f A C i 7,syc s f A C i 8,syc s f A C i 9]=(syC (brS s f i) (V (A i) (brP s f i).m (C i))).toList:=rfl
theorem jP0 {w:Ad} {B:Nat} {a:OA} {n cap:Nat} {s:BA} {f:Int} {A:Nat->OA} {C:Nat->Nat} (D:w.ownsRow B 31 10 (V a n cap) n (cL 10 (syc s f A C) n)) (G:∀ i,i<n->jK w (A i) (brP s f i).m (brP s f i).S):Rd w (qJ n (brS s f)) (V a n cap):=by
 refine⟨a,cap,rfl,fun i j=>?_⟩;rcases jW D with ⟨_,H,_⟩|⟨g,a0,rfl,_⟩
 .omega
 .refine⟨g,0,rfl,fun q u=>⟨syc s f A C i q,?_,?_⟩⟩
  .rw[Bq,D.cellAt _ (qM j u)];exact jT _ _ _ _ _ j u
  .match q,u with
   | 0,_|1,_|2,_|3,_|4,_|5,_|6,_|7,_|8,_=>rfl
   | 9,_=>exact zW.2 (G i j)
theorem jPt {w:Ad} {B g:Nat} {n cap:Nat} {s:BA} {f:Int} {A:Nat->OA} {C:Nat->Nat} {F:Nat->Prop} (W:w.ownsRow B 31 10 (V g n cap) n (cL 10 (syc s f A C) n)) (X:∀ i,i<n->jI w B (A i) (brP s f i).m (C i) (brP s f i).S) (hd:∀ i j x y,i<j->j<n->A i=some x->A j=some y->x.block≠y.block) (M:∀ i x,i<n->A i=some x->x.block≠g) (R:F g) (H:∀ i x,i<n->A i=some x->F x.block):Ow w B (qJ n (brS s f)) (V g n cap) F:=by
 refine⟨_,cap,syc s f A C,fun i q x=>q=9/\∃ y,A i=some y/\y.block=x,rfl,W,⟨fun x e=>by cases e;exact R,?_,?_,?_⟩,fun i q u O=>?_⟩
 .rintro i q x u _ ⟨_,y,e,rfl⟩;exact H i y u e
 .rintro i q x u _ ex ⟨_,y,e,D⟩;cases ex;exact M i y u e D
 .rintro i q J Z x u _ G _ ⟨h1,y,e,rfl⟩ ⟨h2,K,L,D⟩;refine⟨?_,by omega⟩;rcases Nat.lt_trichotomy i J with h|h|h
  .exact Bo D.symm (hd i J y K h G e L)
  .exact h
  .exact Bo D (hd J i K y h u L e)
 .match q,O with
  | 0,_|1,_|2,_|3,_|4,_|5,_|6,_|7,_|8,_=>rfl
  | 9,_=>exact xP (X i u) (fun x e=>⟨rfl,x,e,rfl⟩)
theorem Tryz.infoSyB:(Tryz.prog.info? 31).map (fun i=>(i.zero,i.size,i.bytes))=M (M (Ai #[(),(),(),Ap,Ap,(),(),(),Ap,V I 0 0]),10,120):=by kernel_rfl
theorem JJ {w w':Ad} {B e s n l c:Nat} {a:OA} {xs:List Aj} (h:w.ownsRow B e s (V a l c) n xs) (A:∀ x,a=M x->B<=x.block->x.block<w->w'.1[x.block]?=w.1[x.block]?):w'.ownsRow B e s (V a l c) n xs:=by
 refine⟨h.1,?_⟩;rcases h.2 with k|⟨j,b0,a0,q,h1,h2,u⟩
 .exact .inl k
 .cases q;exact .inr ⟨j,_,a0,rfl,h1,(A _ rfl h1 (By.1 h2).1).trans h2,u⟩
theorem jE5 (s:BA) (f:Int) (w:Ad) (hs:s.size<=1048576):Ak prog 140 #[s,f] w fun e w'=>∃ a cap,e=Ae (Ah #[V a (brN s f) cap,(brR s f),(brB s f)])/\(∀ W',w'.1.size<=W'.1.size->(∀ b,w.1.size<=b->b<w'.1.size->W'.1[b]?=w'.1[b]?)->Rd W' (qJ (brN s f) (brS s f)) (V a (brN s f) cap))/\Ab w w w':=by
 obtain⟨i0,hi,a6,b0,b2⟩:=Ch Tryz.infoSyB;have KI:Hid (CS 43 #[f,(1:Int),(3:Int)] w (inB f 1 3)):=jM f 1 3 w;by_cases hf:1<=f/\f<=3
 case neg=>
  have i1:inB f 1 3=Av:=Bh hf;rw[i1] at KI;have K:brB s f=Av:=by unfold brB fB;rw[Bh hf];rfl
  have hN:brN s f=0:=by unfold brN;rw[K];rfl
  have hR:brR s f=Ap:=by unfold brR;rw[K];rfl
  rw[hN,hR,K];have KB:Hid (Ab w w (w.alloc (.cells #[] 31))):=(Az _ _).alloc (Ay _) _;clear hs hN hR K;go_enter func140,ntmps140
  go_wp2_with fail
  refine Ax KI.out ?_;rintro e w' ⟨rfl,hw⟩;obtain rfl:=hw.symm;clear hw KI;go_wp2
  go_ret3
  exact⟨_,_,rfl,fun _ _ _=>Rd.nil _ _ _ _ _ _,KB⟩
 have i1:inB f 1 3=Aw:=Bf hf;rw[i1] at KI;have e1:IntKind.i64.wrap (f+1)=f+1:=by rw[A8];omega
 have KA:Hid (∀ W,CS 50 #[f] W (3*f+1:Int)):=fun W=>vQ f W hf
 have a0:brB s f=vJ s (f+1) (3*f+1):=by unfold brB fB;rw[Bf hf];rfl
 have KC:Hid (Ak prog 101 #[s,(f+1:Int),(3*f+1:Int)] w fun e w'=>∃ v,e=Ae (Ah #[v,(brB s f)])/\jQs w w' v (jIb s (f+1) (3*f+1)) (brP s f)/\Ab w w w'):=by
  have:=jMy s (f+1) (3*f+1) w hs
  rw[<-a0] at this;exact this
 have a1:jIb s (f+1) (3*f+1)=brN s f:=by unfold jIb brN;rw[a0]
 rw[a1] at KC;obtain⟨n1,b4⟩:=nnH (3*f+1);rw[b4.out] at KA KC;cases K:brB s f with
 | false=>
  rw[K] at KC;have hN:brN s f=0:=by unfold brN;rw[K];rfl
  have hR:brR s f=Ap:=by unfold brR;rw[K];rfl
  rw[hN] at KC;rw[hN,hR];clear a0 a1 hN hR hs;go_enter func140,ntmps140
  go_wp2_with fail
  refine Ax KI.out ?_;rintro e w' ⟨rfl,hw⟩;obtain rfl:=hw.symm;clear hw KI;go_wp2_with fail
  refine Ax (KA _) ?_;rintro e w' ⟨rfl,hw⟩;obtain rfl:=hw.symm;clear hw;go_wp2_with fail
  refine Ax KC.out ?_;rintro e w1 ⟨v,rfl,_,b1⟩;have KB:Hid (Ab w w (w1.alloc (.cells #[] 31))):=b1.alloc b1.size _;clear b1 KC;go_wp2
  go_ret3
  exact⟨_,_,rfl,fun _ _ _=>Rd.nil _ _ _ _ _ _,KB⟩
 | true=>
  rw[K] at KC;obtain⟨N,HN⟩:=nnH (brN s f);have b5:0<N/\N<=16:=by
   rw[<-HN.out];unfold brN;rw[K];simp only[C0];omega
  obtain⟨a8,b7⟩:=b5;obtain⟨R,HR⟩:=nnH (brR s f);have a5:Hid (∀ i,(brP s f i).r=R):=fun i=>by rw[<-HR.out];unfold brR;rw[K];exact jQw s f i
  rw[HN.out] at KC;rw[HN.out,HR.out];clear a0 a1 hs K;go_enter func140,ntmps140
  go_wp2_with fail
  refine Ax KI.out ?_;rintro e w' ⟨rfl,hw⟩;obtain rfl:=hw.symm;clear hw KI;go_wp2_with fail
  refine Ax (KA _) ?_;rintro e w' ⟨rfl,hw⟩;obtain rfl:=hw.symm;clear hw;go_wp2_with fail
  refine Ax KC.out ?_;rintro e w1 ⟨v,rfl,⟨G,cP,A,C,rfl,OP⟩,b1⟩;have HX:Hid (∀ j q,j<N->q<6->w1.cell? (Q G (j*6+q) I)=some (cel (brP s f j) (V (A j) (brP s f j).m (C j)) q)):=fun j q hj hq=>jEc.cell OP.1 hj hq
  have b6:Hid (∀ j,j<N->jI w1 w (A j) (brP s f j).m (C j) (brP s f j).S):=fun j hj=>OP.2.1 j hj
  have a2:Hid (Ab w w w1):=b1;have lP:=(A0 OP.1 G rfl).2;have b8:(0:Int)<(N:Int):=by omega
  clear b1 KC OP;go_wp2
  go_loopw [9,10] (fun v9 v10 wr=>∃ j g cc:Nat,j<=N/\v10=Ao Ar (j:Int)/\v9=V g j cc/\wr.ownsRow w1 31 10 (V g j cc) j (cL 10 (syc s f A C) j)/\Ab w1 w1 wr) (fun _ v10 _=>N-(intOf v10).toNat)
  case atStart=>exact⟨0,w1.1.size,0,Bi _,rfl,rfl,Cc w1 #[] 0 (Ay _) (by unfold Au;omega) (by simp),(Az _ _).alloc (Ay _) _⟩
  case round=>
   obtain⟨j,g,cc,hj,rfl,rfl,H,D⟩:=hrel;by_cases hlt:j<N
   .have c1:(j:Int)<(N:Int):=by omega
    have KO:Hid (wr.ownsRow w1 31 10 (V g j cc) j (cL 10 (syc s f A C) j)):=H;have KB:Hid (Ab w1 w1 wr):=D;have b3:=D.size;have lg:=A0 H g rfl;have HC:Hid (∀ q,q<6->wr.cell? (Q G (j*6+q) I)=some (cel (brP s f j) (V (A j) (brP s f j).m (C j)) q)):=fun q hq=>(D.cell (p:=Q G (j*6+q) I) lP).trans (HX j q hlt hq)
    obtain⟨pr,M,O,L,pb,Z,pS,HP⟩:∃ r k n i b m S,Hid (brP s f j=⟨r,k,n,i,b,m,S⟩):=⟨_,_,_,_,_,_,_,rfl⟩;have a9:pr=R:=by have:=a5 j;rw[HP.out] at this;exact this
    have x0:=HC 0 (by omega);have x1:=HC 1 (by omega);have x2:=HC 2 (by omega);have x3:=HC 3 (by omega);have x4:=HC 4 (by omega);have x5:=HC 5 (by omega);rw[HP.out] at x0 x1 x2 x3 x4 x5;simp only[cel,Cp] at x0 x1 x2 x3 x4 x5;have HE:Hid ((syC (brS s f j) (V (A j) (brP s f j).m (C j))).toList=[Ao Ar 0,Ao Ar (-1),Ao Ar (j:Int),Ag pr,Ag pr,Ao Ar M,Ao Ar O,Ao Ar L,Ag pb,V (A j) Z (C j)]):=by
     show _=_;unfold brS;rw[HP.out]
    obtain⟨nw,b9⟩:=nmH ((#[(),(-1:Int),(j:Int),pr,pr,M,O,L,pb,V (A j) Z (C j)]:Array Aj));have a3:Hid ((wr.drew.alloc (.cells #[(),(-1:Int),(j:Int),pr,pr,M,O,L,pb,V (A j) Z (C j)] 31)).ownsRow w1 31 10 (V g j cc) j (cL 10 (syc s f A C) j)):=Cb (jF KO (jD wr)) _;have KW:Hid (∀ q u,[Ao Ar 0,(-1:Int),(j:Int),pr,pr,M,O,L,pb,V (A j) Z (C j)][q]?=some u->(wr.drew.alloc (.cells #[(),(-1:Int),(j:Int),pr,pr,M,O,L,pb,V (A j) Z (C j)] 31)).cell? (((Q wr.1.size 0 I):Al).add q)=some u):=Cf (cs:=#[Ao Ar 0,Ao Ar (-1),Ao Ar (j:Int),Ag pr,Ag pr,Ao Ar M,Ao Ar O,Ao Ar L,Ag pb,V (A j) Z (C j)]) (t:=31) (fr:=(0,0)) (Co wr.drew _);have KG:Hid (Ab w1 w1 (wr.drew.alloc (.cells #[(),(-1:Int),(j:Int),pr,pr,M,O,L,pb,V (A j) Z (C j)] 31))):=(KB.drew).alloc b3 _;have c0:G<wr.1.size:=by omega
    clear H D a9 HC;go_wp2_with fail
    go_region_held3 (fun w'=>w'.cell? (Q G (j*6) I)=some (Ag pr)/\w'.cell? (Q G (j*6+1) I)=some (Ao Ar M)/\w'.cell? (Q G (j*6+2) I)=some (Ao Ar O)/\w'.cell? (Q G (j*6+3) I)=some (Ao Ar L)/\w'.cell? (Q G (j*6+4) I)=some (Ag pb)/\w'.cell? (Q G (j*6+5) I)=some (V (A j) Z (C j))) (go_keep) ((refine xI _ rfl _ _ _ rfl w1 31 i0 _ 10 120 Dm hi a6 b0 b2 rfl (by omega) g j cc (cL 10 (syc s f A C) j) rfl ?_ ⟨wr.1.size,0,I⟩ 1 1 [(),(-1:Int),(j:Int),pr,pr,M,O,L,pb,V (A j) Z (C j)] rfl rfl ?_ (by simp[Aq]) (by unfold Au;omega) (by omega) (by simp;omega) ?_;exact a3.out;exact KW.out;intro g3 cap3 w3 X J;have a4:Hid (w3.ownsRow w1 31 10 (V g3 (j+1) cap3) (j+1) (cL 10 (syc s f A C) j++[Ao Ar 0,Ao Ar (-1),Ao Ar (j:Int),Ag pr,Ag pr,Ao Ar M,Ao Ar O,Ao Ar L,Ag pb,V (A j) Z (C j)])):=X;have KB3:Hid (Ab w1 w1 w3):=KG.grown J (by simp;omega) (fun x hx=>by cases hx;exact lg.1);have h3:=KB3.out;have z0:=(h3.cell (p:=Q G (j*6) I) lP).trans (HX j 0 hlt (by omega));have z1:=(h3.cell (p:=Q G (j*6+1) I) lP).trans (HX j 1 hlt (by omega));have z2:=(h3.cell (p:=Q G (j*6+2) I) lP).trans (HX j 2 hlt (by omega));have z3:=(h3.cell (p:=Q G (j*6+3) I) lP).trans (HX j 3 hlt (by omega));have z4:=(h3.cell (p:=Q G (j*6+4) I) lP).trans (HX j 4 hlt (by omega));have z5:=(h3.cell (p:=Q G (j*6+5) I) lP).trans (HX j 5 hlt (by omega));rw[HP.out] at z0 z1 z2 z3 z4 z5;simp only[cel] at z0 z1 z2 z3 z4 z5;clear X J h3))
    all_goals
     have HO:Hid (w3.ownsRow w1 31 10 (V g3 (j+1) cap3) (j+1) (cL 10 (syc s f A C) (j+1))):=by
      show World.ownsRow _ _ _ _ _ _ _;rw[jIs,jQa,show (syC (brS s f j) (V (A j) (brP s f j).m (C j))).toList=[Ao Ar 0,Ao Ar (-1),Ao Ar (j:Int),Ag pr,Ag pr,Ao Ar M,Ao Ar O,Ao Ar L,Ag pb,V (A j) Z (C j)] from HE.out];exact a4
     clear a4 KO a3 KW KG KB x0 x1 x2 x3 x4 x5 z0 z1 z2 z3 z4 z5;go_wp2
     go_roundw
     case rel=>exact⟨j+1,g3,cap3,by omega,by go_num,rfl,HO.out,KB3.out⟩
     case measure=>simp[intOf];omega
   .obtain rfl:j=N:=by omega
    have y0:=(D.cell (p:=G) lP).trans (HX 0 0 a8 (by omega));simp only[cel] at y0;rw[a5.out 0] at y0;have KR:Hid (∀ W',wr.1.size<=W'.1.size->(∀ b,w.1.size<=b->b<wr.1.size->W'.1[b]?=wr.1[b]?)->Rd W' (qJ j (brS s f)) (V g j cc)):=fun W' _ h2=>by
     have s1:=a2.size;have s2:=D.size;refine jP0 (JJ H (fun x _ hb hl=>h2 _ (by omega) hl)) (fun i hi=>jI.at (B:=w.1.size) (cap:=C i) (JJ (b6 i hi) (fun x _ hb hl=>?_)));exact(h2 x.block hb (by omega)).trans (D.block x.block hl)
    have a7:Hid (Ab w w wr):=jA a2 D;clear H D;go_wp2_with fail
    go_region
    all_goals
     go_wp2
     go_ret3
     exact⟨_,_,rfl,KR,a7.drew⟩
def zcB:List Aj:=[Ao Ar 0,Ao Ar 0,Ao Ar 0,Ag Ap,Ag Ap,Ao Ar 0,Ao Ar 0,Ao Ar 0,Ag Ap,V I 0 0]
theorem jIp (s:BA) (f:Int) (w:Ad) (hs:s.size<=1048576):Ak prog 170 #[s,f] w fun e w'=>∃ g cap,e=Ae (Ah #[.slice (Q g 0 I) (brN s f) cap,(brR s f),(brB s f)])/\Ow w' w (qJ (brN s f) (brS s f)) (.slice (Q g 0 I) (brN s f) cap) (rng w w'.1.size)/\Ab w w w':=by
 obtain⟨i0,J,b5,c1,c4⟩:=Ch Tryz.infoSyB;have KI:Hid (CS 71 #[f] w (fB f)):=jEo f w;have a5:Hid (∀ (W:Ad) (S:Nat->Sy),w.1.size<=W.1.size->Ow (W.alloc (.cells #[] 31)) w (qJ 0 S) (.slice (Q W.1.size 0 I) 0 0) (rng w (W.alloc (.cells #[] 31)).1.size)):=fun W S H=>by
  refine⟨_,0,fun _ _=>undef,fun _ _ _=>False,rfl,Cc W #[] 0 H (by unfold Au;omega) (by simp),⟨fun x e=>by cases e;exact⟨H,by simp⟩,fun _ _ _ J=>Bo J (Bk _),fun _ _ _ J=>Bo J (Bk _),fun _ _ _ _ _ J=>Bo J (Bk _)⟩,fun _ _ J=>Bo J (Bk _)⟩
 by_cases hf:1<=f/\f<=3
 case neg=>
  have i1:fB f=Av:=Bh hf;rw[i1] at KI;have X:brB s f=Av:=by unfold brB;rw[i1];rfl
  have hN:brN s f=0:=by unfold brN;rw[X];rfl
  have hR:brR s f=Ap:=by unfold brR;rw[X];rfl
  rw[hN,hR,X];have KB:Hid (Ab w w (w.alloc (.cells #[] 31))):=(Az _ _).alloc (Ay _) _;have KN:Hid _:=a5 w (brS s f) (Ay _);clear hs hN hR X;go_enter func170,ntmps170
  go_wp2_with fail
  refine Ax KI.out ?_;rintro e w' ⟨rfl,hw⟩;obtain rfl:=hw.symm;clear hw KI;go_wp2
  go_ret3
  exact⟨_,_,rfl,KN,KB⟩
 have i1:fB f=Aw:=Bf hf;rw[i1] at KI;have KP:Hid (∀ W,CS 158 #[f] W (f+1:Int)):=fun W=>QS f W hf
 have KA:Hid (∀ W,CS 72 #[f] W (3*f+1:Int)):=fun W=>vG f W hf
 have a4:brB s f=vJ s (f+1) (3*f+1):=by unfold brB;rw[i1];rfl
 have Z:Hid (Ak prog 191 #[s,(f+1:Int),(3*f+1:Int)] w fun e w'=>∃ v,e=Ae (Ah #[v,(brB s f)])/\jQs w w' v (jIb s (f+1) (3*f+1)) (brP s f)/\Ab w w w'):=by
  have:=jMo s (f+1) (3*f+1) w hs
  rw[<-a4] at this;exact this
 have a7:jIb s (f+1) (3*f+1)=brN s f:=by unfold jIb brN;rw[a4]
 rw[a7] at Z;obtain⟨k1,e6⟩:=nnH (f+1);obtain⟨n1,e7⟩:=nnH (3*f+1);rw[e6.out] at KP Z;rw[e7.out] at KA Z;cases X:brB s f with
 | false=>
  rw[X] at Z;have hN:brN s f=0:=by unfold brN;rw[X];rfl
  have hR:brR s f=Ap:=by unfold brR;rw[X];rfl
  rw[hN] at Z;rw[hN,hR];clear a4 a7 hN hR hs;go_enter func170,ntmps170
  go_wp2_with fail
  refine Ax KI.out ?_;rintro e w' ⟨rfl,hw⟩;obtain rfl:=hw.symm;clear hw KI;go_wp2_with fail
  refine Ax (KP _) ?_;rintro e w' ⟨rfl,hw⟩;obtain rfl:=hw.symm;clear hw;go_wp2_with fail
  refine Ax (KA _) ?_;rintro e w' ⟨rfl,hw⟩;obtain rfl:=hw.symm;clear hw;go_wp2_with fail
  refine Ax Z.out ?_;rintro e D ⟨v,rfl,_,b1⟩;have KB:Hid (Ab w w (D.alloc (.cells #[] 31))):=b1.alloc b1.size _;have KN:Hid _:=a5 D (brS s f) b1.size;clear b1 Z;go_wp2
  go_ret3
  exact⟨_,_,rfl,KN,KB⟩
 | true=>
  rw[X] at Z;obtain⟨N,HN⟩:=nnH (brN s f);have e8:0<N/\N<=16:=by
   rw[<-HN.out];unfold brN;rw[X];simp only[C0];omega
  obtain⟨b9,f0⟩:=e8;obtain⟨R,HR⟩:=nnH (brR s f);have a8:Hid (∀ i,(brP s f i).r=R):=fun i=>by rw[<-HR.out];unfold brR;rw[X];exact jQw s f i
  have f7:R.size<=1048576:=by
   rw[<-a8.out 0];show (rtS _ _).size<=_;unfold rtS;split
   .rename_i hlv
    have:=vE hlv
    rw[Gt.rt_size (by omega) this.2.2];omega
   .decide
  have b3:Hid (∀ W,CB 120 #[R] W R):=fun W=>qN R W (by omega)
  rw[HN.out] at Z;rw[HN.out,HR.out];clear a4 a7 hs X;go_enter func170,ntmps170
  go_wp2_with fail
  refine Ax KI.out ?_;rintro e w' ⟨rfl,hw⟩;obtain rfl:=hw.symm;clear hw KI;go_wp2_with fail
  refine Ax (KP _) ?_;rintro e w' ⟨rfl,hw⟩;obtain rfl:=hw.symm;clear hw;go_wp2_with fail
  refine Ax (KA _) ?_;rintro e w' ⟨rfl,hw⟩;obtain rfl:=hw.symm;clear hw;go_wp2_with fail
  refine Ax Z.out ?_;rintro e D ⟨v,rfl,⟨gP,cP,A,C,rfl,OP⟩,b1⟩;have HX:Hid (∀ j q,j<N->q<6->D.cell? (Q gP (j*6+q) I)=some (cel (brP s f j) (.slice (A j) (brP s f j).m (C j)) q)):=fun j q hj hq=>jEc.cell OP.1 hj hq
  have a3:Hid (jCi D w gP N cP A C (brP s f)):=OP;have b0:Hid (Ab w w D):=b1;have lP:=(A0 OP.1 gP rfl).2;have f2:(0:Int)<(N:Int):=by omega
  clear b1 Z OP;go_wp2_with (at_make;refine Cx _ rfl _ _ 34 rfl D 31 i0 _ 10 Dm J b5 c1 Ar Ar _ _ N rfl rfl rfl rfl (by rw[c4];omega) (by unfold Au;omega) (Ay _) ?_;intro w2 B a1)
  have hb2:Ab D D w2:=(Az _ _).grown a1 (Ay _) (by simp);obtain⟨G,HG⟩:=nmH D.1.size;have ho2:w2.ownsRow D 31 10 (.slice G N N) N (cL 10 (fun i q=>if i<0 then syc s f A C i q else zcB.getD q undef) N):=by
   have e:(madeCells (Ai zcB.toArray).cells (N*10)).toList=cL 10 (fun _ q=>zcB.getD q undef) N:=xS (zs:=zcB) (by simp[zcB]);have e2:cL 10 (fun i q=>if i<0 then syc s f A C i q else zcB.getD q undef) N=cL 10 (fun _ q=>zcB.getD q undef) N:=vX (fun i q _ _=>by simp);rw[e2,<-e,HG.out];exact B
  rw[<-HG.out];have e3:D.1.size<=G:=by rw[HG.out];exact Ay _
  have f4:gP<G:=by rw[HG.out];exact lP
  clear B a1;go_loopw [33] (fun v33 wr=>∃ j:Nat,j<=N/\v33=Ao Ar (j:Int)/\wr.ownsRow D 31 10 (.slice G N N) N (cL 10 (fun i q=>if i<j then syc s f A C i q else zcB.getD q undef) N)/\Ab D D wr) (fun v33 _=>N-(intOf v33).toNat)
  case atStart=>exact⟨0,Bi _,rfl,ho2,hb2⟩
  case round=>
   obtain⟨j,hj,rfl,B,u⟩:=hrel;clear ho2 hb2;by_cases hlt:j<N
   .have f3:(j:Int)<(N:Int):=by omega
    have KO:Hid (wr.ownsRow D 31 10 (.slice G N N) N (cL 10 (fun i q=>if i<j then syc s f A C i q else zcB.getD q undef) N)):=B;have KB:Hid (Ab D D wr):=u;have f8:=u.size;have lG:=(A0 B G rfl).2;have HC:Hid (∀ q,q<6->wr.cell? (Q gP (j*6+q) I)=some (cel (brP s f j) (.slice (A j) (brP s f j).m (C j)) q)):=fun q hq=>(u.cell (p:=Q gP (j*6+q) I) lP).trans (HX j q hlt hq)
    obtain⟨pr,L,M,K,pb,O,pS,HP⟩:∃ r k n i b m S,Hid (brP s f j=⟨r,k,n,i,b,m,S⟩):=⟨_,_,_,_,_,_,_,rfl⟩;obtain rfl:R=pr:=by have:=a8 j;rw[HP.out] at this;exact this.symm
    have x0:=HC 0 (by omega);have x1:=HC 1 (by omega);have x2:=HC 2 (by omega);have x3:=HC 3 (by omega);have x4:=HC 4 (by omega);have x5:=HC 5 (by omega);rw[HP.out] at x0 x1 x2 x3 x4 x5;simp only[cel,Cp] at x0 x1 x2 x3 x4 x5;have HE:Hid ((syC (brS s f j) (.slice (A j) (brP s f j).m (C j))).toList=[Ao Ar 0,Ao Ar (-1),Ao Ar (j:Int),Ag R,Ag R,Ao Ar L,Ao Ar M,Ao Ar K,Ag pb,.slice (A j) O (C j)]):=by
     show _=_;unfold brS;rw[HP.out]
    obtain⟨V,HV⟩:=nmH wr.1.size;obtain⟨wv,a6⟩:=nmH (wr.alloc (.cells (pcC R L M K pb (.slice (A j) O (C j))) 29));have RV:=jZ a6 HV;have bv:=bl1 a6;have lV:V<wv:=RV.lt;have b2:Hid (wv.ownsRow D 31 10 (.slice G N N) N (cL 10 (fun i q=>if i<j then syc s f A C i q else zcB.getD q undef) N)):=jF B bv;have e1:Hid (Ab D D wv):=jA u bv;have e9:Hid (V≠G):=by have:=HV.out;show V≠G;omega
    have KS:Hid (∀ W,Row W V 29 (pcC R L M K pb (.slice (A j) O (C j)))->W.cell? V=some (Ag R)/\W.cell? (Q V 1 I)=some (Ao Ar L)/\W.cell? (Q V 2 I)=some (Ao Ar M)/\W.cell? (Q V 3 I)=some (Ao Ar K)/\W.cell? (Q V 4 I)=some (Ag pb)/\W.cell? (Q V 5 I)=some (.slice (A j) O (C j))):=fun W H=>⟨H.cell 0,H.cell 1,H.cell 2,H.cell 3,H.cell 4,H.cell 5⟩
    have e4:Row wv.drew V 29 (pcC R L M K pb (.slice (A j) O (C j))):=RV.drew;have a2:Hid (∀ W,Ab wv wv W->W.there G (j*10) 10/\W.ownsRow D 31 10 (.slice G N N) N (cL 10 (fun i q=>if i<j then syc s f A C i q else zcB.getD q undef) N)/\Row W V 29 (pcC R L M K pb (.slice (A j) O (C j)))/\Ab D D W):=fun W H=>by
     have o:=jF b2 H;refine⟨fun q hq=>⟨?_,B0 o _⟩,o,RV.below H lV,jA e1 H⟩;rw[Bt o _ (qM hlt hq),jT _ _ _ _ _ hlt hq];rfl
    have a0:Hid (∀ W,Ab wv wv W->W.cell? (Q G (j*10) I)=some (zcB.getD 0 undef)/\(∀ q,q<10->W.cell? (Q G (j*10+q) I)=some (zcB.getD q undef))/\W.frozen? (Q G (j*10) I)=Av/\∀ q,W.frozen? (Q G (j*10+q) I)=Av):=fun W H=>by
     have o:=jF b2 H;have k:∀ q,q<10->W.cell? (Q G (j*10+q) I)=some (zcB.getD q undef):=fun q hq=>by
      rw[Bt o _ (qM hlt hq),jT _ _ _ _ _ hlt hq];simp
     exact⟨k 0 (by omega),k,B0 o _,fun q=>B0 o _⟩
    clear B u HC bv;go_wp2_with fail
    rw[<-a6.out,<-HV.out];go_region_held3 (fun w'=>w'.cell? (Q V 0 I)=some (Ag R)/\w'.cell? (Q V 1 I)=some (Ao Ar L)/\w'.cell? (Q V 2 I)=some (Ao Ar M)/\w'.cell? (Q V 3 I)=some (Ao Ar K)/\w'.cell? (Q V 4 I)=some (Ag pb)/\w'.cell? (Q V 5 I)=some (.slice (A j) O (C j))) (exact KS.out _ (by with_reducible assumption)) (((go_at_call 120;refine Ax (b3.out _) ?_;rintro e w7 ⟨rfl,a9⟩;have b7:=jC a9;clear a9 e4;have b4:=(a2.out _ b7).2.2.1;have d0:=(a0.out _ b7).1;have tc:=(a0.out _ b7).2.1;have c7:=(a0.out _ b7).2.2.1;have tf:=(a0.out _ b7).2.2.2;have e5:Row ((((((((((w7.setCell (Q G (j*10) I) ()).setCell (Q G (j*10+1) I) (-1:Int)).setCell (Q G (j*10+2) I) (j:Int)).setCell (Q G (j*10+3) I) R).setCell (Q G (j*10+4) I) R).setCell (Q G (j*10+5) I) L).setCell (Q G (j*10+6) I) M).setCell (Q G (j*10+7) I) K).setCell (Q G (j*10+8) I) pb).setCell (Q G (j*10+9) I) (.slice (A j) O (C j))) V 29 (pcC R L M K pb (.slice (A j) O (C j))):=(jE G [(),(-1:Int),(j:Int),R,R,L,M,K,pb,.slice (A j) O (C j)] (j*10) w7 V e9.out).trans b4)))
    all_goals
     have HO:Hid ((w7.setCells G (j*10) [(),(-1:Int),(j:Int),R,R,L,M,K,pb,.slice (A j) O (C j)]).ownsRow D 31 10 (.slice G N N) N (cL 10 (fun i q=>if i<j+1 then syc s f A C i q else zcB.getD q undef) N)):=by
      have h1:=qH hlt [(),(-1:Int),(j:Int),R,R,L,M,K,pb,.slice (A j) O (C j)] 0 w7 _ rfl (a2 _ b7).2.1;rw[Cp] at h1;have e:cL 10 (fun i q=>if i<j+1 then syc s f A C i q else zcB.getD q undef) N=cL 10 (fun i' q'=>if i'=j/\0<=q' then ([(),(-1:Int),(j:Int),R,R,L,M,K,pb,.slice (A j) O (C j)]:List Aj).getD (q' - 0) undef else if i'<j then syc s f A C i' q' else zcB.getD q' undef) N:=vX fun i q _ _=>by
       by_cases ei:i=j
       .subst ei;rw[A6 (show i<i+1 by omega),A6 ⟨rfl,Bi _⟩,<-HE.out];rfl
       .by_cases e2:i<j
        .rw[A6 (by omega),A5 (fun h=>ei h.1),A6 e2]
        .rw[A5 (by omega),A5 (fun h=>ei h.1),A5 e2]
      show World.ownsRow _ _ _ _ _ _ _;rw[e];exact h1
     have KBn:Hid (Ab D D (w7.setCells G (j*10) [(),(-1:Int),(j:Int),R,R,L,M,K,pb,.slice (A j) O (C j)])):=jP (a2 _ b7).2.2.2 e3 _ _;clear e5 b4 b7 a2 a0 KS d0 tc c7 tf x0 x1 x2 x3 x4 x5;go_wp2
     go_roundw
     case rel=>exact⟨j+1,by omega,by go_num,HO.out,KBn.out⟩
     case measure=>simp[intOf];omega
   .obtain rfl:j=N:=by omega
    have y0:=(u.cell (p:=gP) lP).trans (HX 0 0 b9 (by omega));simp only[cel] at y0;rw[a8.out 0] at y0;have hO:wr.ownsRow D 31 10 (.slice G j j) j (cL 10 (syc s f A C) j):=by
     have e:cL 10 (fun i q=>if i<j then syc s f A C i q else zcB.getD q undef) j=cL 10 (syc s f A C) j:=vX (fun i q J _=>A6 J);rw[<-e];exact B
    have f1:=(A0 hO G rfl).2;have c9:=b0.size;have KF:Hid (∀ W,Ab wr.1.size wr W->Ow W w (qJ j (brS s f)) (.slice G j j) (rng w W.1.size)):=fun W H=>by
     have f5:=H.size;have f6:=u.size;refine jPt (A:=A) (C:=C) (jX (jF hO H) c9) (fun i J=>jI.below (jI.below (a3.2.1 i J) u) H) a3.2.2.1 (fun i x J e=>?_) ⟨by omega,by omega⟩ (fun i x J e=>?_)
     .have ho:=a3.2.1 i J;rw[e] at ho;have:=(A0 ho x.block rfl).2
      omega
     .have ho:=a3.2.1 i J;rw[e] at ho;have:=A0 ho x.block rfl
      exact⟨this.1,by omega⟩
    have b6:Hid (Ab w w wr):=jA b0 u;clear B u hO;go_wp2_with fail
    refine Ax (b3 _) ?_;rintro e w8 ⟨rfl,b8⟩;have c0:Hid _:=KF w8 b8;have e0:Hid (Ab w w w8):=jA b6 b8;clear b8 y0;go_wp2
    go_ret3
    exact⟨_,_,rfl,c0,e0⟩
structure Nd where
 i:Int
 f:Int
 n:Nat
 S:Nat->Sl
def ndD (d:Nd):Nat->Dt
 | 0=>.val (Ao Ar d.i)
 | 1=>.val (Ao Ar d.f)
 | _=>qG d.n d.S
def qS (m:Nat) (N:Nat->Nd):Dt:=.lst 26 3 m fun i=>ndD (N i)
structure NdB (d:Nd):Prop where
 n:d.n<=Au
 s:∀ i,i<d.n->SlB (d.S i)
structure NdS (d:Nd):Prop where
 n:d.n<=1048576
 s:∀ i,i<d.n->SlS (d.S i)
theorem zH {w:Ad} {m:Nat} {N:Nat->Nd} {a:OA} {cap:Nat} (h:Rd w (qS m N) (V a m cap)) {c:Nat} (hc:c<m):∃ (b off:Nat) (an:OA) (cn:Nat),a=M (Q b off I)/\(w.cell? (Q b (off+c*3) I)=M (Ao Ar (N c).i)/\w.cell? (Q b (off+c*3+1) I)=M (Ao Ar (N c).f)/\w.cell? (Q b (off+c*3+2) I)=M (V an (N c).n cn))/\w.rangeAt b (off+c*3) [Ao Ar (N c).i,Ao Ar (N c).f,V an (N c).n cn]/\Rd w (qG (N c).n (N c).S) (V an (N c).n cn):=by
 obtain⟨b,off,y,ea,hy,hr⟩:=h.row hc;have r2:=hr 2 (by omega);obtain⟨an,cn,e2⟩:=r2.shape;rw[e2] at r2;have g0:=hr 0 (by omega);have g1:=hr 1 (by omega);simp only[Rd,ndD] at g0 g1;have c0:=hy 0 (by omega);have c1:=hy 1 (by omega);have c2:=hy 2 (by omega);rw[g0,<-Ee] at c0;rw[g1,<-Ee] at c1;rw[e2,<-Ee] at c2;refine⟨b,off,an,cn,ea,⟨c0,c1,c2⟩,fun j v hv=>?_,r2⟩;have hj:=(Bz.1 hv).1;match j,hj with
 | 0,_=>rw[<-hv];exact c0
 | 1,_=>rw[<-hv];exact c1
 | 2,_=>rw[<-hv];exact c2
def wtN (d:Nd):Nat:=wtL d.n d.S
def jIe (m:Nat) (N:Nat->Nd):Nat:=m+tot (fun i=>wtN (N i)) m
theorem Tryz.infoNdLw:(Tryz.prog.info? 190).map (·.size)=M 3:=by kernel_rfl
theorem jLb (a:OA) (n cap:Nat) (N:Nat->Nd) (l:Nat) (w:Ad) (h:Rd w (qS n N) (V a n cap)) (hl:l<=1048576) (hn:n<=Au) (hL:∀ i,i<n->NdB (N i)):CB 79 #[V a n cap,(l:Int)] w (szN l (jIe n N)):=by
 unfold Au at hn;by_cases h1:n<=l
 .obtain⟨d,hd⟩:∃ d,l-n=d:=⟨_,rfl⟩;have hw:IntKind.i64.wrap ((l:Int)-(n:Int))=(d:Int):=by rw[A8];omega
  have h0:¬ ((d:Int)<0):=by omega
  have KL:H (∀ i,i<n->NdB (N i)):=hL;have KH:H (Rd w (qS n N) (V a n cap)):=h;clear hL h;go_enter func79,ntmps79
  go_wp2
  go_loopw [1,5] (fun p i wr=>∃ c q:Nat,c<=n/\q<=1048576/\H (tot (fun i=>wtN (N i)) c+q=d)/\p=Ao Ar (q:Int)/\i=Ao Ar (c:Int)/\Ab w w wr) (fun _ i _=>n-(intOf i).toNat)
  case atStart=>exact⟨0,d,Bi _,by omega,by show 0+d=d;omega,rfl,rfl,Az _ _⟩
  case round=>
   obtain⟨c,q,hc,hq,HT,rfl,rfl,a0⟩:=hrel;clear hw h0;by_cases hlt:c<n
   .obtain⟨b1,f1,an,cn,rfl,_,f0,g0⟩:=zH (KH.below a0) hlt;have i0:=jGs (fun i=>wtN (N i)) hlt;have k0:(c:Int)<(n:Int):=by omega
    have e0:=HT.out;obtain⟨lc,c0⟩:=nnH (wtN (N c));have d0:H (tot (fun i=>wtN (N i)) (c+1)=tot (fun i=>wtN (N i)) c+lc):=by rw[<-c0.out];rfl
    have b0:tot (fun i=>wtN (N i)) c+lc<=tot (fun i=>wtN (N i)) n:=by rw[<-c0.out];exact i0
    have KZ:H (CB 142 #[Ai #[Ao Ar (N c).i,Ao Ar (N c).f,V an (N c).n cn],(q:Int)] wr (szN q lc)):=by
     rw[<-c0.out];exact jNb (N c).i (N c).f an (N c).n cn (N c).S q wr g0 hq (KL c hlt).n (KL c hlt).s
    have R1:H (wr.rangeAt b1 (f1+c*3) [Ao Ar (N c).i,Ao Ar (N c).f,V an (N c).n cn]):=f0;have KB:H (Ab w w wr):=a0;clear i0 f0 g0 a0;by_cases h2:lc<=q
    .obtain⟨q',j0⟩:∃ q',q-lc=q':=⟨_,rfl⟩;have h3:¬ ((q':Int)<0):=by omega
     have HT2:H (tot (fun i=>wtN (N i)) (c+1)+q'=d):=by show _=_;rw[d0.out];omega
     have hq2:q'<=1048576:=by omega
     rw[qF h2,j0] at KZ;clear HT e0 b0 d0;go_wp2_with (refine Bv rfl 190 _ rfl b1 (f1+c*3) rfl [Ao Ar (N c).i,Ao Ar (N c).f,V an (N c).n cn] _ ?_ underlying190 rfl Tryz.infoNdLw ?_;exact R1)
     refine Ax KZ.out ?_;rintro e w1 ⟨rfl,bb⟩;have KB1:H (Ab w w w1):=jA KB bb;clear bb KZ R1;go_wp2
     go_roundw
     case rel=>exact⟨c+1,q',by omega,hq2,HT2,rfl,by go_num,KB1.out⟩
     case measure=>simp[intOf] <;> omega
    .have HR:H (szN l (jIe n N) = -1):=qD (by unfold jIe;omega);rw[qD h2] at KZ;clear HT e0 b0 d0;go_wp2_with (refine Bv rfl 190 _ rfl b1 (f1+c*3) rfl [Ao Ar (N c).i,Ao Ar (N c).f,V an (N c).n cn] _ ?_ underlying190 rfl Tryz.infoNdLw ?_;exact R1)
     refine Ax KZ.out ?_;rintro e w1 ⟨rfl,bb⟩;have KB1:H (Ab w w w1):=jA KB bb;clear bb KZ R1;go_wp2
     go_ret
     exact⟨jS HR.symm,KB1⟩
   .obtain rfl:c=n:=by omega
    have HR:H (szN l (jIe c N)=(q:Int)):=by
     have:=HT.out
     have e:l-(c+tot (fun i=>wtN (N i)) c)=q:=by omega
     exact(qF (by unfold jIe;omega)).trans (by unfold jIe;rw[e])
    clear KH;go_wp2
    go_ret
    exact⟨jS HR.symm,a0⟩
 .have h0:(l:Int)-(n:Int)<0:=by omega
  have hw:IntKind.i64.wrap ((l:Int)-(n:Int))=(l:Int)-(n:Int):=by rw[A8];omega
  have HR:H (szN l (jIe n N) = -1):=qD (by unfold jIe;omega);clear h hL;go_enter func79,ntmps79
  go_wp2
  go_ret
  exact⟨jS HR.symm,Az _ _⟩
theorem jG6 (a b:OA) (n ca cb:Nat) (N:Nat->Nd) (w:Ad) (ha:Rd w (qS n N) (V a n ca)) (hb:Rd w (qS n N) (V b n cb)) (hn:n<=1048576) (hs:∀ i,i<n->NdS (N i)):CB 87 #[V a n ca,V b n cb] w Aw:=by
 have KH:H (Rd w (qS n N) (V a n ca)/\Rd w (qS n N) (V b n cb)):=⟨ha,hb⟩;have HS:H (∀ i,i<n->NdS (N i)):=hs;have h0:((n:Int) !=(n:Int))=Av:=by simp
 go_enter func87,ntmps87
 go_wp2
 go_loopw [5] (fun vi wr=>∃ c:Nat,c<=n/\vi=Ao Ar (c:Int)/\Ab w w wr) (fun vi _=>n-(intOf vi).toNat)
 case atStart=>exact⟨0,Bi _,rfl,Az _ _⟩
 case round=>
  obtain⟨c,f0,rfl,a0⟩:=hrel;by_cases hlt:c<n
  .have g0:(c:Int)<(n:Int):=by omega
   obtain⟨b1,f1,an,cn,rfl,⟨x0,x1,x2⟩,_,d0⟩:=zH (KH.1.below a0) hlt;obtain⟨b2,f2,am,cm,rfl,⟨y0,y1,y2⟩,_,e0⟩:=zH (KH.2.below a0) hlt;have c0:=HS c hlt;have KT:H (∀ W,Ab wr.1.size wr W->CB 146 #[Ai #[Ao Ar (N c).i,Ao Ar (N c).f,V an (N c).n cn],Ai #[Ao Ar (N c).i,Ao Ar (N c).f,V am (N c).n cm]] W Aw):=fun W hW=>jIx (N c).i (N c).f an am (N c).n cn cm (N c).S W (d0.below hW) (e0.below hW) c0.n c0.s
   have KS:H (∀ W,Ab wr.1.size wr W->W.cell? (Q b1 (f1+c*3) I)=M (Ao Ar (N c).i)/\W.cell? (Q b1 (f1+c*3+1) I)=M (Ao Ar (N c).f)/\W.cell? (Q b1 (f1+c*3+2) I)=M (V an (N c).n cn)/\W.cell? (Q b2 (f2+c*3) I)=M (Ao Ar (N c).i)/\W.cell? (Q b2 (f2+c*3+1) I)=M (Ao Ar (N c).f)/\W.cell? (Q b2 (f2+c*3+2) I)=M (V am (N c).n cm)):=fun W hW=>⟨(hW.cell (A7 x0)).trans x0,(hW.cell (A7 x1)).trans x1,(hW.cell (A7 x2)).trans x2,(hW.cell (A7 y0)).trans y0,(hW.cell (A7 y1)).trans y1,(hW.cell (A7 y2)).trans y2⟩
   have KB:=hd a0;have hdr:=jD wr;go_wp2_with fail
   go_region_held3 (fun w'=>w'.cell? (Q b1 (f1+c*3) I)=M (Ao Ar (N c).i)/\w'.cell? (Q b1 (f1+c*3+1) I)=M (Ao Ar (N c).f)/\w'.cell? (Q b1 (f1+c*3+2) I)=M (V an (N c).n cn)/\w'.cell? (Q b2 (f2+c*3) I)=M (Ao Ar (N c).i)/\w'.cell? (Q b2 (f2+c*3+1) I)=M (Ao Ar (N c).f)/\w'.cell? (Q b2 (f2+c*3+2) I)=M (V am (N c).n cm)) (exact KS _ (by assumption)) ((go_at_call 146;refine Ax (KT _ hdr) ?_;rintro e w7 ⟨rfl,b0⟩;have b7:=jC b0;clear b0))
   all_goals
    have HB7:=hd (jA KB b7);go_wp2
    go_roundw
    case rel=>exact⟨c+1,by omega,by go_num,HB7.out⟩
    case measure=>simp[intOf];omega
  .go_wp2
   go_ret
   exact⟨rfl,a0⟩
def ndN:Nd:=⟨0,0,0,fun _=>slZ⟩
def zcN:List Aj:=[Ao Ar 0,Ao Ar 0,V I 0 0]
theorem Tryz.infoNdZ2:(Tryz.prog.info? 26).map (fun i=>(i.zero,i.size,i.bytes))=M (M (Ai zcN.toArray),3,40):=by kernel_rfl
theorem jN9 (w:Ad) (B q:Nat) (hq:q<3):Ow w B (ndD ndN q) (zcN.getD q O) (fun _=>False):=by
 match q,hq with
 | 0,_|1,_=>rfl
 | 2,_=>exact Ow.nil _ _ _ _ _ _
theorem jEx {w:Ad} {B:Nat} {d:Nd} {v:Aj} {F:Nat->Prop} (h:Ow w B (qG d.n d.S) v F) (q:Nat) (hq:q<3):Ow w B (ndD d q) ([Ao Ar d.i,d.f,v].getD q O) (fun x=>q=2/\F x):=by
 match q,hq with
 | 0,_|1,_=>rfl
 | 2,_=>exact Ow.mono h fun g hg=>⟨rfl,hg⟩
theorem jLh (a:OA) (n cap:Nat) (N:Nat->Nd) (w:Ad) (h:Rd w (qS n N) (V a n cap)) (hn:n<=1048576) (hs:∀ i,i<n->NdS (N i)):Ak prog 83 #[V a n cap] w fun e w'=>e=Ae (V (Q w 0 I) n n)/\Ow w' w (qS n N) (V (Q w 0 I) n n) (rng w w'.1.size)/\Ab w w w':=by
 obtain⟨i0,hi,k0,m0,n0⟩:=Ch Tryz.infoNdZ2;have KH:H (Rd w (qS n N) (V a n cap)):=h;have HS:H (∀ i,i<n->NdS (N i)):=hs;clear h hs;go_enter func83,ntmps83
 go_wp2_with (at_make;refine Cx _ rfl _ _ 46 rfl w 26 i0 (Ai zcN.toArray) 3 underlying46 hi k0 m0 Ar Ar _ _ n rfl rfl rfl rfl (by rw[n0];omega) (by unfold Au;omega) (Ay _) ?_;intro w1 a0 c0)
 have hb1:Ab w w w1:=(Az _ _).grown c0 (Ay _) (by simp);obtain⟨g,HG⟩:=nmH w.1.size;have ho1:Ow w1 w (.lst 26 3 n (fun i=>if i<0 then ndD (N i) else ndD ndN)) (V g n n) (rng w w1.1.size):=by
  have e:(madeCells (Ai zcN.toArray).cells (n*3)).toList=cL 3 (fun _ q=>zcN.getD q O) n:=xS (zs:=zcN) (by simp[zcN]);rw[e] at a0;rw[HG.out];have:=XG (F:=rng w w1.1.size) a0 (fun q hq=>jN9 w1 w q hq) ⟨Ay _,(A0 a0 _ rfl).2⟩
  exact this.congr (fun i q _ _=>by simp)
 have gB:g=w.1.size:=HG.out;rw[<-HG.out];have HB:H (w.1.size<=g):=by show _<=_;omega
 clear a0 c0 gB;go_loopw [4] (fun i wr=>∃ k:Nat,k<=n/\i=Ao Ar k/\Ow wr w (.lst 26 3 n (fun i=>if i<k then ndD (N i) else ndD ndN)) (V g n n) (rng w wr.1.size)/\Ab w w wr) (fun i _=>n-(intOf i).toNat)
 case atStart=>exact⟨0,Bi _,rfl,ho1,hb1⟩
 case round=>
  obtain⟨c,hc,rfl,a0,b0⟩:=hrel;clear ho1 hb1;by_cases hlt:c<n
  .have o0:(c:Int)<(n:Int):=by omega
   obtain⟨b1,f1,an,cn,rfl,_,e0,g0⟩:=zH (KH.below b0) hlt;have KT:H _:=jNh (N c).i (N c).f an (N c).n cn (N c).S wr g0 (HS c hlt).n (HS c hlt).s;have R1:H (wr.rangeAt b1 (f1+c*3) [Ao Ar (N c).i,Ao Ar (N c).f,V an (N c).n cn]):=e0;have KO:H (Ow wr w (.lst 26 3 n (fun i=>if i<c then ndD (N i) else ndD ndN)) (V g n n) (rng w wr.1.size)/\Ab w w wr):=⟨a0,b0⟩;have lg:g<wr.1.size:=by
    obtain⟨a',f0,c',G',e',d0,_⟩:=a0;cases e';exact(A0 d0 g rfl).2
   clear e0 g0 b0 a0;go_wp2_with (refine Bv rfl 190 _ rfl b1 (f1+c*3) rfl [Ao Ar (N c).i,Ao Ar (N c).f,V an (N c).n cn] _ ?_ underlying190 rfl Tryz.infoNdLw ?_;exact R1)
   refine Ax KT.out ?_;rintro e w2 ⟨gs,rfl,o2,b2⟩;have O2:=KO.1.below b2;have TH:H (w2.there g (c*3) 3):=by
    obtain⟨a',f0,c',G',e',d0,_⟩:=O2;cases e';intro j hj;refine⟨?_,B0 d0 _⟩;rw[Bt d0 _ (qM hlt hj),jT _ _ _ _ _ hlt hj];rfl
   have h0:=KO.2.size;have HO:H (Ow (w2.setCells g (c*3) [Ao Ar (N c).i,Ao Ar (N c).f,V gs (N c).n (N c).n]) w (.lst 26 3 n (fun i=>if i<c+1 then ndD (N i) else ndD ndN)) (V g n n) (rng w (w2.setCells g (c*3) [Ao Ar (N c).i,Ao Ar (N c).f,V gs (N c).n (N c).n]).1.size)):=by
    rw[jO];refine Ow.congr (Ow.store (d:=ndD (N c)) O2 hlt rfl (fun q hq=>jEx (o2.base h0) q hq) ?_ ?_ ?_ ?_) ?_
    .intro q x _ hx hf;have h2:=hf.2;have h3:=hx.2.1;omega
    .intro q q' x _ _ hx j0;exact hx.1.trans j0.1.symm
    .intro x hx;have:=b2.size
     exact⟨hx.1,by have:=hx.2;omega⟩
    .intro q x _ hx;have h3:=hx.2;exact⟨by have:=h3.1;omega,h3.2⟩
    .intro i q _ _;by_cases e:i=c
     .subst e;simp
     .by_cases e2:i<c
      .simp[e,e2,show i<c+1 by omega]
      .simp[e,e2,show ¬ i<c+1 by omega]
   have HBe:H (Ab w w (w2.setCells g (c*3) [Ao Ar (N c).i,Ao Ar (N c).f,V gs (N c).n (N c).n])):=jP (jA KO.2 b2) HB _ _;clear O2 b2 o2 KT R1 KO;go_wp2_with (refine Dd rfl 26 _ _ rfl g (c*3) ([Ao Ar (N c).i,Ao Ar (N c).f,V gs (N c).n (N c).n]).toArray rfl rfl ?_ Tryz.infoNd (by simp[Aq]) ?_;exact TH)
   go_roundw
   case rel=>exact⟨c+1,by omega,by go_num,HO.out,HBe.out⟩
   case measure=>simp[intOf];omega
  .obtain rfl:c=n:=by omega
   have HO:H (Ow wr w (qS c N) (V g c c) (rng w wr.1.size)):=a0.congr (fun i q hi _=>by simp[hi]);clear a0;go_wp2
   go_ret
   exact⟨by rw[<-HG.out];rfl,by rw[<-HG.out];rw[HG.out];have:=HO.out;rw[HG.out] at this;exact this,b0⟩
end Go.Proofs.YtcaejlalnjnifaaGreat
