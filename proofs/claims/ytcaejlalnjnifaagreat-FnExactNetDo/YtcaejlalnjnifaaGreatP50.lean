import Derived.Test.YtcaejlalnjnifaaGreatP44
import Derived.Test.YtcaejlalnjnifaaGreatP46
import Derived.Test.YtcaejlalnjnifaaGreatP45
set_option maxHeartbeats 8000000
set_option maxRecDepth 2000
open Go.Value renaming slice->V,pointer->Af,tuple->Ah,agg->Ai,int->Ao,oneCell'->Aq
open Option renaming none->I,some->M
open Go.RowKit renaming Hid->H,Below->Ab
open Go.Addr renaming mk->Q
open Go renaming undef->O,World->Ad,Value->Aj,Calls->Ak,Addr->Al
open Go.Obj renaming cells->J
open Go.Ending renaming returned->Ae
open ByteArray renaming empty->Ap
open Go.IntKind renaming i64->Ar
open Bool renaming false->Av,true->Aw
open Go.Proofs.Tryz
open Go.ChangeShapes Go.WideShapes Go.ChangeAt Go.RowKit
namespace Go.Proofs.YtcaejlalnjnifaaGreat
theorem jPr {id f:Int} {n:Nat} {S:Nat->Sl} {y:Sy} (h:NdP id f n S) {i:Nat} (hi:i<nhM id f n S y):(nhY id f n S y i).f=id/\(nhY id f n S y i).r=y.r/\(nhY id f n S y i).k≠0/\(nhY id f n S y i).t=(i:Int)/\(i:Int)<3*f+1:=by
 cases eb:nhB id f n S y with
 | false=>simp only[nhM,eb] at hi;exact Bo hi (by simp)
 | true=>
  have hf:=XZ h.1;have hn:=vL hf;obtain⟨_,a0⟩:=jGk (r:=y.r) h;have eM:nhM id f n S y=hvM id f (slF S y.r n) (plN S y.r n) y:=by simp only[nhM,eb,C0]
  have eY:nhY id f n S y=hvY id (slF S y.r n) (plN S y.r n) y:=by simp only[nhY,eb,C0]
  have b0:hvM id f (slF S y.r n) (plN S y.r n) y<=zG f:=by
   unfold hvM;split <;> split <;> omega
  rw[eY,jF1];refine⟨rfl,a0,?_,rfl,by omega⟩;show (if y.k=0 then (1:Int) else 2)≠0;split <;> omega
theorem jP7 {n:Nat} {S:Nat->Sl} {r:BA} (hS:∀ i,i<n->SlK (S i)) (hr:r.size<=1048576) {i:Nat} (hi:i<=n):SlK (slF S r n i):=by
 unfold slF;by_cases e:i=n
 .rw[A6 e];exact⟨hr,by simp[slR],by simp[slR],by simp[slR],fun j hj=>Bo hj (Bk j),by simp[slR],by simp[slR]⟩
 .rw[A5 e];exact hS i (by omega)
theorem jRi {id f:Int} {n:Nat} {S:Nat->Sl} {y:Sy} (hB:NhB n S y):∀ i,i<nhN id f n S y->SlK (nhS id f n S y i):=by
 intro i hi;cases eb:nhB id f n S y with
 | false=>
  have e1:nhN id f n S y=n:=by simp only[nhN,eb];rfl
  have e2:nhS id f n S y=S:=by simp only[nhS,eb];rfl
  rw[e2];exact hB.k i (by omega)
 | true=>
  have e1:ndB id f n S=Aw:=by unfold nhB at eb;simp at eb;exact eb.1
  have e2:vK id f n S y=Aw:=by unfold nhB at eb;simp at eb;exact eb.2
  have hN:=jDg e1;have hM:=QO e2;have hf:=XZ hN.1;have eS:nhS id f n S y=hvS id f (slF S y.r n) (plN S y.r n) y:=by simp only[nhS,eb,C0]
  have eN:nhN id f n S y=hrN S y.r n:=by simp only[nhN,eb,C0]
  have g0:∀ j,j<hrN S y.r n->j<=n:=fun j hj=>by unfold hrN at hj;split at hj <;> omega
  have hT:∀ j,j<hrN S y.r n->SlK (slF S y.r n j):=fun j hj=>jP7 hB.k hB.r (g0 j hj)
  have hp:=jKh S y.r n;obtain⟨_,q2,q3,_⟩:=jK4 (r:=y.r) hN hM.2.2.2.1;have l2:=XX.len (XE q2) hf;have l3:=XX.len (XE q3) hf;have p2:=jGe (slF S y.r n (plN S y.r n)).ze y.f;have p3:=jGe (slF S y.r n (plN S y.r n)).zr y.f;have d0:=hT i (by rw[<-eN];exact hi);have a0:=hT _ hp;rw[eS];obtain⟨T,HT⟩:∃ x,x=slF S y.r n:=⟨_,rfl⟩;obtain⟨p,HP⟩:∃ x,x=plN S y.r n:=⟨_,rfl⟩;rw[<-HT,<-HP] at a0 p2 p3 l2 l3;rw[<-HT] at d0;rw[<-HT,<-HP];have f0:∀ j,SlK (T j)->SlK (hvA T p y j):=fun j hj=>by
   by_cases k1:y.k=1
   .by_cases ei:j=p
    .have e9:hvA T p y j={T p with ze:=xK (T p).ze y.f}:=by unfold hvA jCh;simp[k1,ei]
     rw[e9];exact⟨a0.1,a0.2,a0.3,a0.4,a0.5,by show (xK (T p).ze y.f).length<=1048576;omega,a0.7⟩
    .have e9:hvA T p y j=T j:=by unfold hvA jCh;simp[k1,ei]
     rw[e9];exact hj
   .by_cases ei:j=p
    .have e9:hvA T p y j={T p with zr:=xK (T p).zr y.f}:=by unfold hvA jEd;simp[k1,ei]
     rw[e9];exact⟨a0.1,a0.2,a0.3,a0.4,a0.5,a0.6,by show (xK (T p).zr y.f).length<=1048576;omega⟩
    .have e9:hvA T p y j=T j:=by unfold hvA jEd;simp[k1,ei]
     rw[e9];exact hj
  have hA:=f0 i d0;have b0:=f0 p a0;have e0:∀ j,SlK (hvA T p y j)->SlK (hvB f T p y j):=fun j hj=>by
   by_cases k1:y.k=1
   .have e9:hvB f T p y j=hvA T p y j:=by unfold hvB;simp[k1]
    rw[e9];exact hj
   .by_cases ei:j=p
    .have e9:hvB f T p y j={hvA T p y p with o:=(hvA T p y p).o || decide (2<=hvT f T p y)}:=by unfold hvB XT;simp[k1,ei]
     rw[e9];exact⟨b0.1,b0.2,b0.3,b0.4,b0.5,b0.6,b0.7⟩
    .have e9:hvB f T p y j=hvA T p y j:=by unfold hvB XT;simp[k1,ei]
     rw[e9];exact hj
  have c0:=e0 p b0;by_cases k0:y.k=0
  .by_cases hE:hvE id f T p y
   .by_cases ei:i=p
    .have e9:hvS id f T p y i={T p with p:=y.p,h:=Aw,e:=Aw}:=by unfold hvS xH;simp[k0,hE,ei]
     rw[e9];exact⟨a0.1,hB.pr,hB.pb,hB.m,hB.ps,a0.6,a0.7⟩
    .have e9:hvS id f T p y i=T i:=by unfold hvS xH;simp[k0,hE,ei]
     rw[e9];exact d0
   .have e9:hvS id f T p y i=T i:=by unfold hvS;simp[k0,hE]
    rw[e9];exact d0
  .by_cases hR:hvR f T p y
   .by_cases ei:i=p
    .have e9:hvS id f T p y i={hvB f T p y p with d:=Aw}:=by unfold hvS jAn;simp[k0,hR,ei]
     rw[e9];exact⟨c0.1,c0.2,c0.3,c0.4,c0.5,c0.6,c0.7⟩
    .have e9:hvS id f T p y i=hvB f T p y i:=by unfold hvS jAn;simp[k0,hR,ei]
     rw[e9];exact e0 i hA
   .have e9:hvS id f T p y i=hvB f T p y i:=by unfold hvS;simp[k0,hR]
    rw[e9];exact e0 i hA
theorem jSc {s:BA} {f:Int} (h:brB s f=Aw):1<=f/\f<=3:=by
 unfold brB fB at h;rw[Cr] at h;exact Do h.1
theorem jQy {s:BA} {f:Int} (h:brB s f=Aw):vJ s (f+1) (3*f+1)=Aw:=by
 unfold brB at h;rw[Cr] at h;exact h.2
theorem jNq {s:BA} {f:Int} (h:brB s f=Aw):lvB (zG f) (lvs (f+1) (zG f) (XY s (f+1).toNat))=Aw:=by
 have hf:=jSc h;have hn:=vL hf;unfold lvB;rw[Cr];refine⟨jCl (fun i hi=>?_),?_⟩
 .unfold lvs;obtain⟨k,hk⟩:∃ k:Nat,f+1=(k:Int):=⟨(f+1).toNat,by omega⟩;rw[hk,jE0 _ (by omega) (by omega) (by omega)];exact Gt.lf_size _
 .unfold inB;exact Bf (by omega)
theorem jQz {s:BA} {f:Int} (h:brB s f=Aw) {i:Nat} (hi:i<zG f):pfB (zG f) (lvs (f+1) (zG f) (XY s (f+1).toNat)) (i:Int)=Aw:=by
 have hf:=jSc h;have hn:=vL hf;unfold pfB;rw[Cr];exact⟨jNq h,by unfold inT;exact Bf (by omega)⟩
theorem jO2 {s:BA} {f:Int} (h:brB s f=Aw) (i:Nat):(brP s f i).r.size=16:=by
 show (rtS (zG f) (lvs (f+1) (zG f) (XY s (f+1).toNat))).size=16;have hl:=jNq h;obtain⟨h1,h2,h3⟩:=vE hl;unfold rtS;rw[A6 hl];exact Gt.rt_size (by omega) h3
theorem jLu {s:BA} {f:Int} (h:brB s f=Aw) {i:Nat} (hi:i<zG f) (S:Nat->Sl):NhB 0 S (brS s f i):=by
 have he:=jQy h;have b0:=jO2 h i;have hm:(brP s f i).m<=16:=jOe _ _ _;refine⟨by omega,fun j hj=>Bo hj (Bk j),?_,?_,?_,?_,fun j hj=>?_⟩
 .show (brP s f i).r.size<=_;omega
 .show (brP s f i).m<=_;omega
 .show (brP s f i).r.size<=_;omega
 .have:=jEj he i
  show (XY s (f+1).toNat i).size<=_;omega
 .have hB:=jQz h hi;obtain⟨h1,h2⟩:=jAf hB;have h3:=vE h1;have a0:j<pfR (zG f) (lvs (f+1) (zG f) (XY s (f+1).toNat)) (i:Int):=hj;unfold pfR at a0;rw[A6 hB] at a0;have:(pfF (zG f) (lvs (f+1) (zG f) (XY s (f+1).toNat)) (i:Int) j).size=16:=Gt.pf_size _ (by simpa using hi) h3.2.2 j a0
  show (pfF (zG f) (lvs (f+1) (zG f) (XY s (f+1).toNat)) (i:Int) j).size<=_;omega
structure Ns where
 N:Nat->Nd
 m:Nat
 Y:Nat->Sy
def QH (a:Nat) (Y:Nat->Sy) (i:Nat):Sy:=if i<a then Y i else Y (i+1)
noncomputable def hdN (d:Nd) (y:Sy):Nd:=⟨d.i,d.f,nhN d.i d.f d.n d.S y,nhS d.i d.f d.n d.S y⟩
noncomputable def hdM (d:Nd) (y:Sy):Nat:=nhM d.i d.f d.n d.S y
noncomputable def hdY (d:Nd) (y:Sy):Nat->Sy:=nhY d.i d.f d.n d.S y
def ToP (n:Nat) (zs:List Int) (t:Int):Prop:=(0<=t/\t<n)/\t∉zs
instance (n:Nat) (zs:List Int) (t:Int):Decidable (ToP n zs t):=by unfold ToP;infer_instance
noncomputable def hrT (n:Nat) (zs:List Int) (T:Ns) (a:Nat):Ns:=
 if ToP n zs (T.Y a).t then ⟨fun i=>if i=(T.Y a).t.toNat then hdN (T.N (T.Y a).t.toNat) (T.Y a) else T.N i,T.m-1+hdM (T.N (T.Y a).t.toNat) (T.Y a),wyS (T.m-1) (QH a T.Y) (hdY (T.N (T.Y a).t.toNat) (T.Y a))⟩
 else ⟨T.N,T.m-1,QH a T.Y⟩
structure NsG (f:Int) (n:Nat) (zs:List Int) (T:Ns):Prop where
 t:NtP f n T.N zs T.m
 k:∀ i,i<n->∀ j,j<(T.N i).n->SlK ((T.N i).S j)
 y:∀ i,i<T.m->SyK (T.Y i)
theorem NsG.nd {f:Int} {n:Nat} {zs:List Int} {T:Ns} (h:NsG f n zs T) {i:Nat} (hi:i<n):NdP (T.N i).i (T.N i).f (T.N i).n (T.N i).S/\(T.N i).i=(i:Int)/\(T.N i).f=f/\(T.N i).n<=40:=by
 obtain⟨_,_,_,_,_,h6⟩:=h.t;have h7:=h6 i hi;exact⟨h7.2.2,h7.1,h7.2.1,h7.2.2.2.1⟩
theorem NsG.nh {f:Int} {n:Nat} {zs:List Int} {T:Ns} (h:NsG f n zs T) {i:Nat} (hi:i<n) {y:Sy} (hy:SyK y):NhB (T.N i).n (T.N i).S y:=
 ⟨by have:=(h.nd hi).2.2.2;omega,h.k i hi,hy.r,hy.m,hy.pr,hy.pb,hy.tx⟩
theorem NsG.n10 {f:Int} {n:Nat} {zs:List Int} {T:Ns} (h:NsG f n zs T):n<=10/\zs.length<=3/\T.m<=3000/\(1<=f/\f<=3):=by
 obtain⟨h1,h2,h3,_,h5,_⟩:=h.t;exact⟨by omega,by omega,h5,h1⟩
theorem jN4 {id f:Int} {n:Nat} {S:Nat->Sl} {y:Sy} (h:NdP id f n S) (hr:y.r.size<=1048576) {i:Nat} (hi:i<nhM id f n S y):SyK (nhY id f n S y i):=by
 have hs:=jPr h hi;have hp:(nhY id f n S y i).p=⟨Ap,0,0,0,Ap,0,fun _=>Ap⟩:=by
  cases eb:nhB id f n S y with
  | false=>simp only[nhM,eb] at hi;exact Bo hi (by simp)
  | true=>simp only[nhY,eb,C0];rw[jF1];rfl
 refine⟨by rw[hs.2.1];exact hr,?_,?_,?_,?_⟩ <;> rw[hp]
 .simp
 .simp
 .simp
 .intro j hj;exact Bo hj (Bk j)
theorem jN5 {id f:Int} {n:Nat} {S:Nat->Sl} {y:Sy} (h:NdP id f n S):nhM id f n S y<=10:=by
 have hf:=XZ h.1;have hn:=vL hf;cases eb:nhB id f n S y with
 | false=>simp only[nhM,eb];simp
 | true=>
  have eM:nhM id f n S y=hvM id f (slF S y.r n) (plN S y.r n) y:=by simp only[nhM,eb,C0]
  rw[eM];unfold hvM;split <;> split <;> omega
theorem jG0 {m:Nat} {Y Z:Nat->Sy} {i:Nat} (h:i<m):wyS m Y Z i=Y i:=A6 h
theorem jGz {m:Nat} {Y Z:Nat->Sy} {i:Nat} (h:¬ i<m):wyS m Y Z i=Z (i-m):=A5 h
theorem jB9 {m k:Nat} {Y Z:Nat->Sy} (h1:∀ i,i<m->SyK (Y i)) (h2:∀ i,i<k->SyK (Z i)):∀ i,i<m+k->SyK (wyS m Y Z i):=fun i hi=>by
 by_cases e:i<m
 .rw[jG0 e];exact h1 i e
 .rw[jGz e];exact h2 _ (by omega)
theorem jK9 {m a:Nat} {Y:Nat->Sy} (h1:∀ i,i<m->SyK (Y i)) (ha:a<m):∀ i,i<m-1->SyK (QH a Y i):=fun i hi=>by
 unfold QH;split
 .exact h1 i (by omega)
 .exact h1 _ (by omega)
theorem jQ7 {f:Int} {n:Nat} {zs:List Int} {T:Ns} (h:NsG f n zs T) {a:Nat} (ha:a<T.m) (hm:(hrT n zs T a).m<=3000):NsG f n zs (hrT n zs T a):=by
 obtain⟨h1,h2,h3,h4,h5,h6⟩:=h.t;unfold hrT at hm |-;by_cases ht:ToP n zs (T.Y a).t
 .rw[A6 ht] at hm |-;have a0:(T.Y a).t.toNat<n:=by have:=ht.1;omega
  have hd:=h.nd a0;have hy:=h.y a ha;refine⟨⟨h1,h2,h3,h4,hm,fun i hi=>?_⟩,fun i hi j hj=>?_,jB9 (jK9 h.y ha) (fun i hi=>jN4 hd.1 hy.r hi)⟩
  .show (if i=_ then hdN _ _ else T.N i).i=(i:Int)/\(if i=_ then hdN _ _ else T.N i).f=f/\NdP (if i=_ then hdN _ _ else T.N i).i (if i=_ then hdN _ _ else T.N i).f (if i=_ then hdN _ _ else T.N i).n (if i=_ then hdN _ _ else T.N i).S;by_cases e:i=(T.Y a).t.toNat
   .rw[A6 e];subst e;exact⟨hd.2.1,hd.2.2.1,jSl hd.1⟩
   .rw[A5 e];exact h6 i hi
  .change j<(if i=_ then hdN _ _ else T.N i).n at hj
   show SlK ((if i=_ then hdN _ _ else T.N i).S j);by_cases e:i=(T.Y a).t.toNat
   .rw[A6 e] at hj |-;exact jRi (h.nh a0 hy) j hj
   .rw[A5 e] at hj |-;exact h.k i hi j hj
 .rw[A5 ht] at hm |-;exact⟨⟨h1,h2,h3,h4,by show T.m-1<=3000;omega,h6⟩,h.k,jK9 h.y ha⟩
structure Op9 where
 k:Int
 a:Int
 y:Sy
 s:BA
structure OpK (o:Op9):Prop where
 y:SyK o.y
 s:o.s.size<=1048576
def OpP (f:Int) (n:Nat) (zs:List Int) (T:Ns) (o:Op9):Prop:=
 (o.k=0/\(0<=o.a/\o.a<T.m)/\(hrT n zs T o.a.toNat).m<=3000)\/(o.k=1/\(0<=o.a/\o.a<T.m)/\T.m<3000)\/(o.k=2/\o.y.f∈zs/\(0<=o.y.t/\o.y.t<n)/\T.m<3000)\/(o.k=3/\brB o.s f=Aw/\T.m+brN o.s f<=3000)
noncomputable def opB (f:Int) (n:Nat) (zs:List Int) (T:Ns) (o:Op9):Bool:=@decide (OpP f n zs T o) (Classical.propDecidable _)
theorem jJ4 {f:Int} {n:Nat} {zs:List Int} {T:Ns} {o:Op9} (h:OpP f n zs T o):opB f n zs T o=Aw:=by unfold opB;exact @Bf _ (Classical.propDecidable _) h
theorem jF7 {f:Int} {n:Nat} {zs:List Int} {T:Ns} {o:Op9} (h:¬ OpP f n zs T o):opB f n zs T o=Av:=by unfold opB;exact @Bh _ (Classical.propDecidable _) h
theorem jN8 {f:Int} {n:Nat} {zs:List Int} {T:Ns} {o:Op9} (h:opB f n zs T o=Aw):OpP f n zs T o:=by
 rcases G9 (OpP f n zs T o) with k|k
 .exact k
 .rw[jF7 k] at h;cases h
noncomputable def nxT (f:Int) (n:Nat) (zs:List Int) (T:Ns) (o:Op9):Ns:=
 if o.k=0 then hrT n zs T o.a.toNat
 else if o.k=1 then ⟨T.N,T.m+1,wyS T.m T.Y (fun _=>T.Y o.a.toNat)⟩
 else if o.k=2 then ⟨T.N,T.m+1,wyS T.m T.Y (fun _=>o.y)⟩
 else ⟨T.N,T.m+brN o.s f,wyS T.m T.Y (brS o.s f)⟩
noncomputable def opT (f:Int) (n:Nat) (zs:List Int) (T:Ns) (o:Op9):Ns:=if opB f n zs T o then nxT f n zs T o else T
theorem jCp {s:BA} {f:Int}:(∀ i,i<brN s f->SyK (brS s f i))/\brN s f<=10:=by
 unfold brN;cases e:brB s f with
 | false=>exact⟨fun i hi=>Bo hi (Bk i),by simp⟩
 | true=>
  have hf:=jSc e;have hn:=vL hf;refine⟨fun i hi=>?_,by rw[A6 rfl];omega⟩;rw[A6 rfl] at hi;have:=jLu e (i:=i) (by omega) (fun _=>slR Ap)
  exact⟨this.r,this.pr,this.pb,this.m,this.ps⟩
theorem jRj {f:Int} {n:Nat} {zs:List Int} {T:Ns} {o:Op9} (h:NsG f n zs T) (ho:OpK o) (hp:OpP f n zs T o):NsG f n zs (nxT f n zs T o):=by
 obtain⟨h1,h2,h3,h4,h5,h6⟩:=h.t;unfold nxT;rcases hp with ⟨e,ha,hm⟩|⟨e,ha,hm⟩|⟨e,ha,hb,hm⟩|⟨e,hb,hm⟩
 .rw[A6 e];exact jQ7 h (by omega) hm
 .rw[A5 (by omega),A6 e];exact⟨⟨h1,h2,h3,h4,by show T.m+1<=3000;omega,h6⟩,h.k,jB9 h.y (fun _ _=>h.y _ (by omega))⟩
 .rw[A5 (by omega),A5 (by omega),A6 e];exact⟨⟨h1,h2,h3,h4,by show T.m+1<=3000;omega,h6⟩,h.k,jB9 h.y (fun _ _=>ho.y)⟩
 .rw[A5 (by omega),A5 (by omega),A5 (by omega)];exact⟨⟨h1,h2,h3,h4,hm,h6⟩,h.k,jB9 h.y jCp.1⟩
theorem jRn {f:Int} {n:Nat} {zs:List Int} {T:Ns} {o:Op9} (h:NsG f n zs T) (ho:OpK o):NsG f n zs (opT f n zs T o):=by
 unfold opT;cases e:opB f n zs T o with
 | false=>exact h
 | true=>exact jRj h ho (jN8 e)
structure HdX (B:Nat) (W:Ad) (d:Nd) (y:Sy) (a:OA) (cap:Nat) (av:OA) (cv:Nat) (sa:OA) (sc:Nat) (F1 F2:Nat->Prop):Prop where
 v:(V av (hdN d y).n cv=V a d.n cap/\hdN d y=d)\/Ow W B (qG (hdN d y).n (hdN d y).S) (V av (hdN d y).n cv) F1
 y:Rf W (fun b=>¬ F2 b) (qJ (hdM d y) (hdY d y)) (V sa (hdM d y) sc)
 f:∀ x,F1 x\/F2 x->B<=x/\x<W.1.size
theorem HdX.turn {B:Nat} {W W':Ad} {d:Nd} {y:Sy} {a:OA} {cap:Nat} {av:OA} {cv:Nat} {sa:OA} {sc:Nat} {F1 F2:Nat->Prop} (h:HdX B W d y a cap av cv sa sc F1 F2) (hs:W.1.size<=W'.1.size) (ht:∀ x,F1 x\/F2 x->W'.1[x]?=W.1[x]?):HdX B W' d y a cap av cv sa sc F1 F2:=
 ⟨h.v.imp id (fun o=>o.frame fun x hx _=>ht x (.inl hx)),h.y.turn hs (fun b hb _=>ht b (.inr (Classical.not_not.1 hb))),fun x hx=>⟨(h.f x hx).1,Br (h.f x hx).2 hs⟩⟩
theorem HdX.below {B:Nat} {W W':Ad} {d:Nd} {y:Sy} {a:OA} {cap:Nat} {av:OA} {cv:Nat} {sa:OA} {sc:Nat} {F1 F2:Nat->Prop} (h:HdX B W d y a cap av cv sa sc F1 F2) (hb:Ab W W W'):HdX B W' d y a cap av cv sa sc F1 F2:=h.turn hb.size (fun x hx=>hb.block x (h.f x hx).2)
theorem HdX.base {B B':Nat} {W:Ad} {d:Nd} {y:Sy} {a:OA} {cap:Nat} {av:OA} {cv:Nat} {sa:OA} {sc:Nat} {F1 F2:Nat->Prop} (h:HdX B W d y a cap av cv sa sc F1 F2) (hB:B'<=B):HdX B' W d y a cap av cv sa sc F1 F2:=
 ⟨h.v.imp id (fun o=>o.base hB),h.y,fun x hx=>⟨Bx hB (h.f x hx).1,(h.f x hx).2⟩⟩
theorem jQ5 {d:Nd} {y:Sy} (h:nhB d.i d.f d.n d.S y=Av):hdN d y=d/\hdM d y=0:=by
 unfold hdN hdM;simp only[nhN,nhS,nhM,h];exact⟨rfl,rfl⟩
theorem jI9 (d:Nd) (bi bf:Int) (a:OA) (cap:Nat) (y:Sy) (a9:OA) (c9:Nat) (w:Ad) (hT:Rd w (qG d.n d.S) (V a d.n cap)) (h9:jK w a9 y.p.m y.p.S) (hB:NhB d.n d.S y) (hN:NdP d.i d.f d.n d.S):Ak prog 169 #[seV d.i d.f (V a d.n cap) bi bf,syV y (V a9 y.p.m c9)] w fun e w'=>∃ av cv sa sc F1 F2,e=Ae (Ah #[seV d.i d.f (V av (hdN d y).n cv) bi bf,V sa (hdM d y) sc])/\HdX w w' d y a cap av cv sa sc F1 F2/\Ab w w w':=by
 have hf:=XZ hN.1;cases e:vK d.i d.f d.n d.S y with
 | false=>
  have hb:nhB d.i d.f d.n d.S y=Av:=by unfold nhB;rw[e,Bool.and_false]
  obtain⟨e1,e2⟩:=jQ5 hb;refine(jL4 d.i d.f bi bf a d.n cap d.S y a9 c9 w hT hB hf e).mono ?_;rintro e w' ⟨g,rfl,b⟩;refine⟨a,cap,M (Q g 0 I),0,fun _=>False,fun _=>False,by rw[e1,e2],⟨.inl ⟨by rw[e1],e1⟩,?_,fun x hx=>(hx.elim id id).elim⟩,b⟩;rw[e2];exact fun W' _ _=>Rd.nil _ _ _ _ _ _
 | true=>
  have hb:nhB d.i d.f d.n d.S y=Aw:=by unfold nhB;rw[e,ZX hN];rfl
  have hk:=(QO e).2.2.1;refine(jJa d.i d.f bi bf a d.n cap d.S y a9 c9 w hT h9 hB hf e hk (jJc hB hN)).mono ?_;rintro e w' ⟨g,c1,sa,sc,F1,F2,rfl,o1,o2,_,b⟩;have e1:hdN d y=⟨d.i,d.f,hrN d.S y.r d.n,hvS d.i d.f (slF d.S y.r d.n) (plN d.S y.r d.n) y⟩:=by unfold hdN;simp only[nhN,nhS,hb,C0]
  have e2:hdM d y=hvM d.i d.f (slF d.S y.r d.n) (plN d.S y.r d.n) y:=by unfold hdM;simp only[nhM,hb,C0]
  have e3:hdY d y=hvY d.i (slF d.S y.r d.n) (plN d.S y.r d.n) y:=by unfold hdY;simp only[nhY,hb,C0]
  refine⟨M (Q g 0 I),c1,sa,sc,(fun x=>F1 x/\w.1.size<=x/\x<w'.1.size),(fun x=>F2 x/\w.1.size<=x/\x<w'.1.size),by rw[e1,e2],⟨.inr (by rw[e1];exact o1.cut),?_,fun x hx=>?_⟩,b⟩
  .rw[e2,e3];exact Rf.of_ow o2.cut (fun x hx h=>h hx)
  .rcases hx with hx|hx <;> exact hx.2
theorem jDw (w:Ad) (a:Al) (v:Aj) (h:w.cell? a=M v):w.setCell a v=w:=by
 unfold World.cell? at h;cases w with
 | mk heap tape drawn os output=>
  unfold World.setCell;congr 1
  apply Array.ext
  .simp
  .intro k h1 h2;simp only[Array.getElem_modify];split
   .rename_i hk
    subst hk;simp only[C7 h2] at h;split at h
    .rename_i c t fr e
     rw[Option.some.injEq] at e;rw[e];split at h
     .cases h
     .rename_i hs
      simp only[hs];congr 1
      apply Array.ext
      .simp
      .intro i i1 i2;by_cases e9:a.off=i
       .subst e9;rw[C7 i2] at h;simp at h;simp[h]
       .exact Array.getElem_setIfInBounds_ne i2 e9
    .cases h
   .rfl
theorem QV:∀ (vs:List Aj) (b o:Nat) (w:Ad),w.rangeAt b o vs->w.setCells b o vs=w
 | [],_,_,_,_=>rfl
 | v::r,b,o,w,h=>by
  have h0:w.cell? (Q b o I)=M v:=h 0 v rfl;rw[World.setCells,jDw w _ _ h0];exact QV r b (o+1) w (fun j u hu=>by have:=h (j+1) u (by simpa using hu);rw[show o+1+j=o+(j+1) by omega];exact this)
theorem HaK.wider {W:Ad} {B Hb:Nat} {f:Int} {n:Nat} {N:Nat->Nd} {zs:List Int} {vs vl:Aj} {b m:Nat} {Y:Nat->Sy} {vw:Aj} {Fs Fl Fw F1:Nat->Prop} (h:HaK W B Hb f n N zs vs vl b m Y vw Fs Fl Fw) (hF:∀ x,F1 x->¬ Fs x/\¬ Fl x/\¬ Fw x/\x≠Hb/\x≠b/\B<=x/\x<W.1.size):HaK W B Hb f n N zs vs vl b m Y vw (fun x=>Fs x\/F1 x) Fl Fw:=
 ⟨h.r,h.s.mono (fun x hx=>.inl hx),h.z,h.k,h.y,fun x hx=>hx.elim (h.d1 x) (fun k=>(hF x k).2.1),fun x hx=>hx.elim (h.d2 x) (fun k=>(hF x k).2.2.1),h.d3,fun x hx=>by
  rcases hx with (hx|hx)|hx
  .exact h.h x (.inl hx)
  .exact(hF x hx).2.2.2
  .exact h.h x (.inr hx),h.b⟩
theorem HdX.away {B1:Nat} {W:Ad} {d:Nd} {y:Sy} {a:OA} {cap:Nat} {av:OA} {cv:Nat} {sa:OA} {sc:Nat} {F1 F2:Nat->Prop} (h:HdX B1 W d y a cap av cv sa sc F1 F2) {B Hb b:Nat} {Fs Fl Fw:Nat->Prop} (hB:B<=B1) (ho:∀ x,Fs x\/Fl x\/Fw x\/x=Hb\/x=b->x<B1):∀ x,F1 x->¬ Fs x/\¬ Fl x/\¬ Fw x/\x≠Hb/\x≠b/\B<=x/\x<W.1.size:=fun x hx=>by
 have h1:=h.f x (.inl hx);exact⟨fun k=>by have:=ho x (.inl k);omega,fun k=>by have:=ho x (.inr (.inl k));omega,fun k=>by have:=ho x (.inr (.inr (.inl k)));omega,fun k=>by have:=ho x (.inr (.inr (.inr (.inl k))));omega,fun k=>by have:=ho x (.inr (.inr (.inr (.inr k))));omega,by omega,h1.2⟩
theorem jHc (B Hb:Nat) (f:Int) (n:Nat) (N:Nat->Nd) (zs:List Int) (gs cs:Nat) (vl:Aj) (b m:Nat) (Y:Nat->Sy) (vw:Aj) (Fs Fl Fw:Nat->Prop) (a7 t:Nat) (d:Nd) (y:Sy) (w:Ad) (h:HaK w B Hb f n N zs (V gs n cs) vl b m Y vw Fs Fl Fw) (hm:m<=3000) (ha:a7<m) (y2:t<n) (Hy:H (Y a7=y)) (Hd:H (N t=d)) (Ht:H (y.t=(t:Int))) (hz:y.t∉zs) (hN:NdP d.i d.f d.n d.S) (hB:NhB d.n d.S y):Ak prog 132 #[Af Hb,(a7:Int)] w fun e w'=>e=Ae (decide (m-1+hdM d y<=3000))/\(3000<m-1+hdM d y->∃ m0 p0 q0,HaK w' B Hb f n N zs (V gs n cs) vl b m Y m0 p0 Fl q0/\Trn w w' (fun x=>x=Hb\/Fs x\/Fw x))/\(m-1+hdM d y<=3000->∃ m0 p0 q0,HaK w' B Hb f n (fun i=>if i=t then hdN d y else N i) zs (V gs n cs) vl b (m-1+hdM d y) (wyS (m-1) (QH a7 Y) (hdY d y)) m0 p0 Fl q0/\Trn w w' (fun x=>x=Hb\/Fs x\/Fw x)):=by
 obtain⟨a3,c3,rfl,_⟩:=h.y.shape;have p1:=xF Hb _ _ _ _ a3 m c3 (a7:Int) w h.r;rw[Bf ⟨by omega,by omega⟩] at p1;have KO:H _:=p1;obtain⟨bb,fb,a9,c9,rfl,r1,t9⟩:=zY h.y.rd ha;rw[Hy.out] at r1 t9;have k2:=hd r1;obtain⟨X,HX⟩:=nmH w.1.size;obtain⟨w0,x0⟩:=nmH (w.alloc (J (syC y (V a9 y.p.m c9)) 31));have R0:=(jZ x0 HX).out;have b0:=bl1 x0;have h0:=h.below b0;obtain⟨w1,f2⟩:=nmH w0.drew;have u1:Ab w0 w0 w1:=by rw[f2.out];exact jD w0
 have n1:=XC Hb b f zs _ _ _ y.t w0 h0.r h0.k;rw[<-f2.out,Bh hz] at n1;have q1:=XD Hb _ _ _ _ gs n cs y.t w0 h0.r;rw[Bf (show 0<=y.t/\y.t<n from by rw[Ht.out];omega)] at q1;have KL:H _:=n1;have KS:H _:=q1;obtain⟨bs,os,yv,ea,f3,o0⟩:=h.s.rd.row y2;obtain⟨rfl,rfl⟩:gs=bs/\0=os:=by simp at ea;exact⟨ea.1,ea.2⟩
 have r2:Rd w (qG d.n d.S) (yv 2):=by have:=o0 2 (by omega);rw[Hd.out] at this;exact this
 obtain⟨an,cn,e2⟩:=r2.shape;rw[e2] at r2;have g0:yv 0=Ao Ar d.i:=by have:=o0 0 (by omega);rw[Hd.out] at this;exact this
 have g1:yv 1=Ao Ar d.f:=by have:=o0 1 (by omega);rw[Hd.out] at this;exact this
 have g3:=o0 3 (by omega);have g4:=o0 4 (by omega);have f0:=hd (jA b0 u1);have RG:H (∀ W,Ab w1 w1 W->W.rangeAt gs (t*5) [d.i,d.f,V an d.n cn,(t:Int),f]):=fun W hW j v hv=>by
  have hj:j<5:=by
   rcases F0 j 5 with k|k
   .exact k
   .rw[Bb (by simpa using k)] at hv;cases hv
  have e1:w.cell? (Q gs (t*5+j) I)=M v:=by
   have:=f3 j hj
   rw[Bq] at this;rw[this];match j,hj with
   | 0,_=>rw[g0];simpa using hv
   | 1,_=>rw[g1];simpa using hv
   | 2,_=>rw[e2];simpa using hv
   | 3,_=>rw[g3];simpa using hv
   | 4,_=>rw[g4];simpa using hv
  exact((jA f0 hW).cell (A7 e1)).trans e1
 have v0:Fs gs/\gs<w/\∀ j,w.frozen? (Q gs j I)=Av:=by
  obtain⟨a',u3,c,G,e,ho,hs,hr⟩:=h.s;cases e;have k:=hs.head _ rfl;exact⟨k,(h.h gs (.inl k)).2.2.2,fun j=>B0 ho j⟩
 have i2:=hd v0.1;have f1:H (∀ j,j<5->∀ W,Ab w1 w1 W->(W.cell? (Q gs (t*5+j) I)).isSome=Aw/\W.frozen? (Q gs (t*5+j) I)=Av):=fun j hj W hW=>by
  refine⟨?_,?_⟩
  .rw[RG.out W hW j ([Ao Ar d.i,Ao Ar d.f,V an d.n cn,Ao Ar (t:Int),Ao Ar f].getD j O) (by match j,hj with|0,_|1,_|2,_|3,_|4,_=>rfl)];rfl
  .rw[(jA f0.out hW).frozen (p:=Q gs (t*5+j) I) v0.2.1];exact v0.2.2 _
 obtain⟨N1,i1⟩:=nnH ((hdN d y).n);obtain⟨M1,r0⟩:=nnH (hdM d y);have v3:M1<=10:=by rw[<-r0.out];exact jN5 hN
 have i3:H (∀ i,i<M1->SyK (hdY d y i)):=fun i hi=>by rw[<-r0.out] at hi;exact jN4 hN hB.r hi
 have KH:H (∀ W,Ab w1 w1 W->Ak prog 169 #[Ai #[d.i,d.f,V an d.n cn,(t:Int),f],Ai (syC y (V a9 y.p.m c9))] W fun e w'=>∃ av cv sa sc F1 F2,e=Ae (Ah #[Ai #[d.i,d.f,V av N1 cv,(t:Int),f],V sa M1 sc])/\HdX W.1.size w' d y an cn av cv sa sc F1 F2/\Ab W.1.size W w'):=fun W hW=>by
  have:=jI9 d (t:Int) f an cn y a9 c9 W ((r2.below f0).below hW) ((t9.below f0).below hW) hB hN
  rw[i1.out,r0.out] at this;exact this
 have RH:=hd (h.r.below f0 h.r.lt);have RX:=hd (R0.below u1 R0.lt);have m1:=hd h;have s3:=f0.size;have b2:=RH.lt;have r3:gs<w1:=by have:=v0.2.1;omega
 have a2:∀ x,Fw x->x<w1.1.size:=fun x hx=>by have:=(h.h x (.inr (.inr hx))).2.2.2;omega
 have y1:B<=w1:=by have h1:=h.b.2.2;omega
 have g2:H (∀ x,Fs x\/Fl x\/Fw x\/x=Hb\/x=b->x<w1.1.size):=fun x hx=>by
  rcases hx with k|k|k|k|k
  .have:=(h.h x (.inl k)).2.2.2;omega
  .have:=(h.h x (.inr (.inl k))).2.2.2;omega
  .exact a2 x k
  .rw[k];exact b2
  .rw[k];obtain⟨es,ck,e,_⟩:=h.k;have:=(By.1 e).1
   omega
 have y3:(a7:Int)<(m:Int):=by omega
 have a4:(t:Int)<(n:Int):=by omega
 have x4:=h.r.cell 4;have x2:=R0.cell 2;simp at x4 x2;rw[r0.out];have z3:1<=m:=by omega
 clear h h0 b0 u1 n1 q1 p1 R0 r1 t9 hz hN hB f3 o0 r2 e2 g0 g1 g3 g4 ea v0 s3;go_enter func132,ntmps132
 go_wp2_with fail
 refine Ax KO.out ?_;rintro e w9 ⟨rfl,j0⟩;obtain rfl:=j0.symm;clear j0;go_wp2_with (refine Bv rfl 31 _ rfl bb (fb+a7*10) rfl (syC y (V a9 y.p.m c9)).toList _ ?_ Cd rfl Tryz.infoSy ?_;exact k2)
 rw[<-x0.out,<-HX.out];go_wp2_with fail
 refine Ax KS.out ?_;rintro e w9 ⟨rfl,j0⟩;obtain rfl:=j0.symm;clear j0;go_wp2_with fail
 refine Ax KL.out ?_;rintro e w9 ⟨rfl,j0⟩;obtain rfl:=j0.symm;clear j0;clear x2 x4 KS KL KO k2 x0;go_upto_region 7 with fail
 refine JE Tryz.mixed 16 [([],[9,14]),([0],[9,14]),([1],[9,14]),([2],[3,9,14]),([],[9,14]),([4],[5,9,14]),([3,5],[9,14]),([6],[7,9,14]),([],[8,9,14]),([7,8],[9,10,11,12,14,15]),([9],[14]),([9,10],[14]),([9,10],[]),([],[13,14]),([9,11,13],[14]),([9,12],[])] (by kernel_rfl) (fun L A9 W=>∃ (x6:Nat) (av:OA) (cv:Nat) (sa:OA) (sc:Nat) (F1:Nat->Prop) (F2:Nat->Prop),A9=⟨(List.toArray (α:=Aj) ((Af Hb)::((a7:Int))::O::O::(Av)::(Af X)::(cX (L 13) (Af x6) O)::(cX (L 15) (V sa M1 sc) O)::(Af Hb)::((a7:Int))::(Aw)::(Av)::(Af Hb)::(Af Hb)::(Af (Q Hb 4 I))::(V (Q bb fb I) m c3)::((a7:Int))::(Af (Q bb (fb+a7*10) I))::(Ai #[y.k,y.f,y.t,y.r,y.p.r,y.p.k,y.p.n,y.p.i,y.p.b,V a9 y.p.m c9])::(Af Hb)::(Af (Q X 2 I))::(y.t)::(Aw)::(Av)::(Av)::(Af Hb)::(Af (Q X 2 I))::(y.t)::(Av)::(Av)::O::O::O::(cX (L 10) (Ah #[Ai #[d.i,d.f,V av N1 cv,(t:Int),f],V sa M1 sc]) O)::(cX (L 0) (Af Hb) O)::(cX (L 1) (Af Hb) O)::(cX (L 2) (Af (Q Hb 1 I)) O)::(cX (L 3) (V gs n cs) O)::(cX (L 4) (Af (Q X 2 I)) O)::(cX (L 5) (t:Int) O)::(cX (L 6) (Af (Q gs (t*5) I)) O)::(cX (L 7) (Ai #[d.i,d.f,V an d.n cn,(t:Int),f]) O)::(cX (L 8) (Ai (syC y (V a9 y.p.m c9))) O)::(cX (L 9) (Ah #[Ai #[d.i,d.f,V av N1 cv,(t:Int),f],V sa M1 sc]) O)::(cX (L 11) (Ai #[d.i,d.f,V av N1 cv,(t:Int),f]) O)::(cX (L 12) (V sa M1 sc) O)::O::O::O::O::O::O::O::O::O::O::O::O::O::O::O::O::O::O::O::O::O::O::O::O::[])),[]⟩/\(Ab w1 w1 W)/\(L 13=Aw->L 14=Av->Row W x6 124 #[(),(),V I 0 0,(),()]/\w1.1.size<=x6)/\(L 14=Aw->Row W x6 124 #[d.i,d.f,V av N1 cv,(t:Int),f]/\w1.1.size<=x6)/\(L 9=Aw->HdX w1 W d y an cn av cv sa sc F1 F2)/\(L 9=Aw->L 13=Aw->¬ F1 x6/\¬ F2 x6)) ?_ ?_ ?_
 .exact⟨0,I,0,I,0,fun _=>False,fun _=>False,rfl,jD _,(fun h=>by cases h),(fun h=>by cases h),(fun h=>by cases h),(fun h=>by cases h)⟩
 .rintro a9 wx ⟨x6,av,cv,sa,sc,F1,F2,t0,w2,-,u0,a1,b1⟩;simp only[Nat.reduceLT,Dn,jJ] at t0;subst t0;replace u0:=(u0 rfl)
  replace a1:=(a1 rfl)
  replace b1:=(b1 rfl rfl)
  have KX:=hd a1;have j1:H (Row wx x6 124 #[d.i,d.f,V av N1 cv,(t:Int),f]/\w1.1.size<=x6/\¬ F1 x6/\¬ F2 x6):=⟨u0.1,u0.2,b1⟩;have i0:=hd w2;clear w2 u0 a1 b1;have z4:=(RH.below i0 RH.lt).cell 4;simp at z4;by_cases cM:3000<m-1+M1
  .have j3:(3000:Int)<(m:Int)-1+(M1:Int):=by omega
   have KE:H (HaK wx B Hb f n N zs (V gs n cs) vl b m Y (V (Q bb fb I) m c3) Fs Fl Fw/\Trn w wx (fun x=>x=Hb\/Fs x\/Fw x)):=⟨m1.below (jA f0 i0),Trn.ofBelow _ (jA f0 i0)⟩;go_wp2
   go_ret
   exact⟨(by have h9:decide (m-1+M1<=3000)=Av:=Bh (by omega);rw[h9];rfl),fun _=>⟨_,_,_,KE.out⟩,fun h9=>Bo h9 (by omega)⟩
  have j3:¬ (3000:Int)<(m:Int)-1+(M1:Int):=by omega
  have z1:=(RH.below i0 RH.lt).cell 1;have z2:=(RX.below i0 RX.lt).cell 2;simp at z1 z2;rw[Ht.out] at z2;have K6:=hd (j1.1.below (jD wx) j1.1.lt);have n2:H (wx.drew.there gs (t*5) 5):=fun j hj=>(f1 j hj _ (jA i0 (jD wx)))
  have c1:H (HaK (wx.drew.setCells gs (t*5) [d.i,d.f,V av N1 cv,(t:Int),f]) B Hb f n (fun i=>if i=t then hdN d y else N i) zs (V gs n cs) vl b m Y (V (Q bb fb I) m c3) (fun x=>Fs x\/F1 x) Fl Fw/\Trn w (wx.drew.setCells gs (t*5) [d.i,d.f,V av N1 cv,(t:Int),f]) (fun x=>x=Hb\/Fs x\/Fw x)/\Rf (wx.drew.setCells gs (t*5) [d.i,d.f,V av N1 cv,(t:Int),f]) (fun x=>x<w1.1.size) (qJ M1 (hdY d y)) (V sa M1 sc)):=by
   have p2:=m1.below (jA f0 (jA i0 (jD wx)));have s0:=KX.below (jD wx);have v2:=s0.v;have b3:=s0.y;rw[i1.out] at v2;rw[r0.out] at b3;have s1:=f0.size;have s2:=i0.size;refine⟨?_,?_,?_⟩
   .rcases v2 with ⟨e1,e2⟩|o1
    .have eN:(fun i=>if i=t then hdN d y else N i)=N:=by
      funext i
      by_cases e:i=t
      .subst e;rw[A6 rfl,e2,Hd.out]
      .rw[A5 e]
     rw[eN,e1,QV _ _ _ _ (RG.out _ (jA i0.out (jD wx)))];exact p2.wider (fun x hx=>s0.away y1 g2 x hx)
    .have hs:=p2.seated y2 (hdN d y) (V av N1 cv) F1 (by rw[i1.out];exact o1.base y1) (fun x hx=>s0.away y1 g2 x hx);exact hs
   .have t1:=Trn.ofBelow (fun x=>x=Hb\/Fs x\/Fw x) (jA f0 (jA i0 (jD wx)));exact t1.trans ⟨(qY _ _ _ _).1,(qY _ _ _ _).2.1,(qY _ _ _ _).2.2,Gv (jO _ _ _ _).symm,fun x _ hn=>jE gs _ _ _ x (fun e=>hn (.inr (.inl (e▸i2.out))))⟩
   .refine(b3.mono (fun x hx k=>?_)).turn (Gv (jO _ _ _ _).symm) (fun x hx _=>jE gs _ _ _ x (fun e=>hx (e▸r3)));have:=(s0.f x (.inr k)).1
    omega
  clear KX j1 i0 m1 f0 RG RH RX f1 i2;go_upto_region 10 with fail
  clear z4;refine JE Tryz.mixed 9 [([],[0,8]),([0],[1,8]),([1],[2,8]),([2],[3,8]),([],[4,8]),([4],[5,8]),([],[6,8]),([3,5],[7,8]),([6,7],[8])] (by kernel_rfl) (fun L A9 W=>A9=⟨(List.toArray (α:=Aj) ((Af Hb)::((a7:Int))::O::O::(Av)::(Af X)::(Af x6)::(V sa M1 sc)::(Af Hb)::((a7:Int))::(Aw)::(Av)::(Af Hb)::(Af Hb)::(Af (Q Hb 4 I))::(V (Q bb fb I) m c3)::((a7:Int))::(Af (Q bb (fb+a7*10) I))::(Ai #[y.k,y.f,y.t,y.r,y.p.r,y.p.k,y.p.n,y.p.i,y.p.b,V a9 y.p.m c9])::(Af Hb)::(Af (Q X 2 I))::(y.t)::(Aw)::(Av)::(Av)::(Af Hb)::(Af (Q X 2 I))::(y.t)::(Av)::(Av)::O::O::O::(Ah #[Ai #[d.i,d.f,V av N1 cv,(t:Int),f],V sa M1 sc])::(Af Hb)::(Af Hb)::(Af (Q Hb 1 I))::(V gs n cs)::(Af (Q X 2 I))::((t:Int))::(Af (Q gs (t*5) I))::(Ai #[d.i,d.f,V an d.n cn,(t:Int),f])::(Ai (syC y (V a9 y.p.m c9)))::(Ah #[Ai #[d.i,d.f,V av N1 cv,(t:Int),f],V sa M1 sc])::(Ai #[d.i,d.f,V av N1 cv,(t:Int),f])::(V sa M1 sc)::(Af Hb)::(Af Hb)::(Af (Q Hb 4 I))::(V (Q bb fb I) m c3)::((m:Int))::(((m:Int)-1:Int))::(V sa M1 sc)::((M1:Int))::(((m:Int)-1+(M1:Int):Int))::(Av)::(cX (L 0) (Af Hb) O)::(cX (L 1) (Af Hb) O)::(cX (L 2) (Af (Q Hb 1 I)) O)::(cX (L 3) (V gs n cs) O)::(cX (L 4) (Af (Q X 2 I)) O)::(cX (L 5) (t:Int) O)::(cX (L 6) (Ai #[d.i,d.f,V av N1 cv,(t:Int),f]) O)::(cX (L 7) (Af (Q gs (t*5) I)) O)::O::O::O::O::O::O::[])),[]⟩/\(L 8=Av->W=wx.drew)/\(L 8=Aw->W=wx.drew.setCells gs (t*5) [d.i,d.f,V av N1 cv,(t:Int),f])) ?_ ?_ ?_
  .exact⟨rfl,(fun _=>rfl),(fun h=>by cases h)⟩
  .rintro a9 wx ⟨t0,-,z0⟩;simp only[Nat.reduceLT,Dn,jJ] at t0;subst t0;replace z0:=(z0 rfl)
   have KA:H (HaK wx B Hb f n (fun i=>if i=t then hdN d y else N i) zs (V gs n cs) vl b m Y (V (Q bb fb I) m c3) (fun x=>Fs x\/F1 x) Fl Fw/\Trn w wx (fun x=>x=Hb\/Fs x\/Fw x)/\Rf wx (fun x=>x<w1.1.size) (qJ M1 (hdY d y)) (V sa M1 sc)):=by rw[z0];exact c1
   clear z0 c1 n2 K6 z1 z2;go_wp2_with fail
   refine Ax (jCy B Hb f _ vl (.map (M b)) m Y _ Fw a7 wx KA.1.hw ha hm) ?_;rintro e w3 ⟨rfl,m0,hk,t3⟩;have q2:=KA.1.sent hk t3 (fun _ hx=>.inl hx) (fun x hx=>Br (KA.1.h x (.inr (.inr hx))).2.2.2 t3.size);have j2:=hd (KA.2.2.turn t3.size (fun x hx hl=>t3.block x hl (fun e=>hx (e.elim (fun e=>e▸b2) (fun e=>a2 x e)))));have m2:=hd (KA.2.1.trans (t3.mono (fun x hx=>hx.elim .inl (fun k=>.inr (.inr k)))));have n0:=hd q2;clear hk t3 q2 KA;have o3:B<=w3:=by have h1:=n0.b.2.2;have h2:=n0.r.lt;omega
   have p3:∀ x,Fw x->x<w3.1.size:=fun x hx=>(n0.h x (.inr (.inr hx))).2.2.2
   go_wp2_with fail
   refine Ax (QI B Hb f _ vl (.map (M b)) (m-1) (QH a7 Y) m0 Fw sa M1 sc (hdY d y) w3 n0.hw (by omega) i3.out o3 p3 (fun c W _ hW _=>(j2.out.turn hW.size (fun x hx hl=>hW.block x hl (fun e=>hx (e.elim (fun e=>e▸b2) (fun e=>a2 x e))))).rd)) ?_;rintro e w4 ⟨rfl,b4,F4,hk,t4,t2,u2⟩;have KE:H (∃ m0 p0 q0,HaK w4 B Hb f n (fun i=>if i=t then hdN d y else N i) zs (V gs n cs) vl b (m-1+M1) (wyS (m-1) (QH a7 Y) (hdY d y)) m0 p0 Fl q0/\Trn w w4 (fun x=>x=Hb\/Fs x\/Fw x)):=⟨_,_,_,n0.sent hk t4 t2 u2,m2.trans (t4.mono (fun x hx=>hx.elim .inl (fun k=>.inr (.inr k))))⟩;clear hk t4 t2 u2 n0 m2 j2;go_wp2
   go_ret
   exact⟨(by have h9:decide (m-1+M1<=3000)=Aw:=Bf (by omega);rw[h9];rfl),fun h9=>Bo h9 (by omega),fun _=>KE.out⟩
  .intro q9 v1 L a9 W S a0;match q9,v1 with
   | 0,_=>
    obtain⟨rfl,h0,h1⟩:=a0;obtain⟨e0,e8,-⟩:=S;obtain rfl:=h0 e8;refine jB rfl (fun _=>rfl) fun K hK=>?_
    go_simp
    exact hK _ _ ⟨(by simp only[Nat.reduceBEq,Be,Bp,jJ]),h0,(ab e8)⟩
   | 1,_=>
    obtain⟨rfl,h0,h1⟩:=a0;obtain⟨d0,e1,e8,-⟩:=S;obtain rfl:=h0 e8;refine jB rfl (fun _=>rfl) fun K hK=>?_
    simp only[d0,jJ];go_simp
    exact hK _ _ ⟨(by simp only[Nat.reduceBEq,Be,Bp,jJ,d0]),h0,(ab e8)⟩
   | 2,_=>
    obtain⟨rfl,h0,h1⟩:=a0;obtain⟨d1,e2,e8,-⟩:=S;obtain rfl:=h0 e8;refine jB rfl (fun _=>rfl) fun K hK=>?_
    simp only[d1,jJ];go_simp
    exact hK _ _ ⟨(by simp only[Nat.reduceBEq,Be,Bp,jJ,d1]),h0,(ab e8)⟩
   | 3,_=>
    obtain⟨rfl,h0,h1⟩:=a0;obtain⟨d2,e3,e8,-⟩:=S;obtain rfl:=h0 e8;have x1:=z1;refine jB rfl (fun _=>rfl) fun K hK=>?_
    simp only[d2,jJ];go_simp
    exact hK _ _ ⟨(by simp only[Nat.reduceBEq,Be,Bp,jJ,d2]),h0,(ab e8)⟩
   | 4,_=>
    obtain⟨rfl,h0,h1⟩:=a0;obtain⟨e4,e8,-⟩:=S;obtain rfl:=h0 e8;refine jB rfl (fun _=>rfl) fun K hK=>?_
    go_simp
    exact hK _ _ ⟨(by simp only[Nat.reduceBEq,Be,Bp,jJ]),h0,(ab e8)⟩
   | 5,_=>
    obtain⟨rfl,h0,h1⟩:=a0;obtain⟨d4,e5,e8,-⟩:=S;obtain rfl:=h0 e8;have x2:=z2;refine jB rfl (fun _=>rfl) fun K hK=>?_
    simp only[d4,jJ];go_simp
    exact hK _ _ ⟨(by simp only[Nat.reduceBEq,Be,Bp,jJ,d4]),h0,(ab e8)⟩
   | 6,_=>
    obtain⟨rfl,h0,h1⟩:=a0;obtain⟨e6,e8,-⟩:=S;obtain rfl:=h0 e8;refine jB rfl (fun _=>rfl) fun K hK=>?_
    refine Ev 124 _ rfl x6 rfl 124 #[d.i,d.f,V av N1 cv,(t:Int),f] (0,0) _ K6 Ff rfl Tryz.infoSt ?_;exact hK _ _ ⟨(by simp[Act.put,jJ]),h0,(ab e8)⟩
   | 7,_=>
    obtain⟨rfl,h0,h1⟩:=a0;obtain⟨d3,d5,e7,e8,-⟩:=S;obtain rfl:=h0 e8;refine jB rfl (fun _=>rfl) fun K hK=>?_
    simp only[d3,d5,jJ];go_simp
    exact hK _ _ ⟨(by simp only[Nat.reduceBEq,Be,Bp,jJ,d3,d5]),h0,(ab e8)⟩
   | 8,_=>
    obtain⟨rfl,h0,h1⟩:=a0;obtain⟨d6,d7,e8,-⟩:=S;obtain rfl:=h0 e8;refine jB rfl (fun _=>rfl) fun K hK=>?_
    simp only[d7,d6,jJ];refine wp_store_mid 124 _ _ rfl gs (t*5) #[d.i,d.f,V av N1 cv,(t:Int),f] rfl rfl n2 Tryz.infoSt (by simp[Aq]) ?_;exact hK _ _ ⟨(by simp[Act.put,jJ,d7,d6]),nf,(fun k0=>rfl)⟩
   | n9+9,h=>exact Bo h (by omega)
 .intro q9 v1 L a9 W S a0;match q9,v1 with
  | 0,_|1,_|2,_|4,_|6,_|10,_|11,_|12,_|15,_=>
   obtain⟨x6,av,cv,sa,sc,F1,F2,rfl,hf⟩:=a0;simp only[knT,kn,knN] at S;refine jB rfl (fun _=>rfl) fun K hK=>?_
   try simp only[S,jJ]
   go_simp
   exact hK _ _ ⟨x6,av,cv,sa,sc,F1,F2,(by simp only[Nat.reduceBEq,Be,Bp,jJ,S]),hf⟩
  | 3,_=>
   obtain⟨x6,av,cv,sa,sc,F1,F2,rfl,h0,h1,h2,h3,h4⟩:=a0;obtain⟨d2,e3,e9,c0,-⟩:=S;have x1:=(RH.below h0 RH.lt).cell 1;simp at x1;refine jB rfl (fun _=>rfl) fun K hK=>?_
   simp only[d2,jJ];go_simp
   exact hK _ _ ⟨x6,av,cv,sa,sc,F1,F2,(by simp only[Nat.reduceBEq,Be,Bp,jJ,d2,e9]),h0,h1,(ab c0),(ab e9),(ab e9)⟩
  | 5,_=>
   obtain⟨x6,av,cv,sa,sc,F1,F2,rfl,h0,h1,h2,h3,h4⟩:=a0;obtain⟨d4,e5,e9,c0,-⟩:=S;have x2:=(RX.below h0 RX.lt).cell 2;simp at x2;rw[Ht.out] at x2;refine jB rfl (fun _=>rfl) fun K hK=>?_
   simp only[d4,jJ];go_simp
   exact hK _ _ ⟨x6,av,cv,sa,sc,F1,F2,(by simp only[Nat.reduceBEq,Be,Bp,jJ,d4,e9]),h0,h1,(ab c0),(ab e9),(ab e9)⟩
  | 7,_=>
   obtain⟨x6,av,cv,sa,sc,F1,F2,rfl,h0,h1,h2,h3,h4⟩:=a0;obtain⟨d6,e7,e9,c0,-⟩:=S;refine jB rfl (fun _=>rfl) fun K hK=>?_
   simp only[d6,jJ];refine G7 124 _ rfl gs (t*5) rfl [d.i,d.f,V an d.n cn,(t:Int),f] _ (RG W h0) Ff rfl Tryz.infoSt ?_;exact hK _ _ ⟨x6,av,cv,sa,sc,F1,F2,(by simp[Act.put,jJ,d6]),h0,h1,(ab c0),(ab e9),(ab e9)⟩
  | 8,_=>
   obtain⟨x6,av,cv,sa,sc,F1,F2,rfl,h0,h1,h2,h3,h4⟩:=a0;obtain⟨e8,e9,c0,-⟩:=S;refine jB rfl (fun _=>rfl) fun K hK=>?_
   refine Ev 31 _ rfl X rfl 31 (syC y (V a9 y.p.m c9)) (0,0) _ (RX.below h0 RX.lt) Cd rfl Tryz.infoSy ?_;exact hK _ _ ⟨x6,av,cv,sa,sc,F1,F2,(by simp[Act.put,jJ]),h0,h1,(ab c0),(ab e9),(ab e9)⟩
  | 9,_=>
   obtain⟨x6,av,cv,sa,sc,F1,F2,rfl,h0,h1,h2,h3,h4⟩:=a0;obtain⟨d7,d8,e9,k3,l3,m3,c0,n3,-⟩:=S;refine jB rfl (fun _=>rfl) fun K hK=>?_
   simp only[d7,d8,jJ];go_simp
   refine Ax (KH W h0) ?_;rintro e w9 ⟨av,cv,sa,sc,F1,F2,rfl,hx,b9⟩;exact hK _ _ ⟨x6,av,cv,sa,sc,F1,F2,(by simp only[Nat.reduceBEq,Be,Bp,jJ,jCr,d7,d8,k3,l3,m3,n3]),(jA h0 b9),(fun k0 k1=>by have q:=h1 (show L 13=Aw from k0) (show L 14=Av from k1);exact⟨q.1.below b9 q.1.lt,q.2⟩),(ab c0),(fun k0=>hx.base h0.size),(fun k0 k1=>by have q:=(h1 (show L 13=Aw from k1) c0).1.lt;exact⟨fun c=>by have:=(hx.f x6 (.inl c)).1;omega,fun c=>by have:=(hx.f x6 (.inr c)).1;omega⟩)⟩
  | 13,_=>
   obtain⟨x6,av,cv,sa,sc,F1,F2,rfl,h0,h1,h2,h3,h4⟩:=a0;obtain⟨x3,c0,-⟩:=S;refine jB rfl (fun _=>rfl) fun K hK=>?_
   go_simp
   exact hK _ _ ⟨W.1.size,av,cv,sa,sc,F1,F2,(by simp only[Nat.reduceBEq,Be,Bp,jJ]),(h0.alloc h0.size _),(fun k0 k1=>⟨Row.new W _ _,h0.size⟩),(ab c0),(fun k0=>(h3 (show L 9=Aw from k0)).below ((Az _ _).alloc (Ay _) _)),(fun k0 k1=>⟨fun c=>by have:=((h3 (show L 9=Aw from k0)).f _ (.inl c)).2;omega,fun c=>by have:=((h3 (show L 9=Aw from k0)).f _ (.inr c)).2;omega⟩)⟩
  | 14,_=>
   obtain⟨x6,av,cv,sa,sc,F1,F2,rfl,h0,h1,h2,h3,h4⟩:=a0;obtain⟨d9,o2,y0,c0,-⟩:=S;obtain⟨r6,l6⟩:=h1 y0 c0;have q3:=h3 d9;have q4:=h4 d9 y0;refine jB rfl (fun _=>rfl) fun K hK=>?_
   simp only[y0,o2,jJ];refine Gx 124 _ _ rfl x6 #[d.i,d.f,V av N1 cv,(t:Int),f] rfl rfl 124 #[(),(),V I 0 0,(),()] r6 Tryz.infoSt rfl (by simp[Aq]) ?_;exact hK _ _ ⟨x6,av,cv,sa,sc,F1,F2,(by simp[Act.put,jJ,y0,o2]),(jG h0 l6 _),(fun _=>nf),(fun k0=>⟨r6.row,l6⟩),(fun k0=>q3.turn (by simp) (fun x hx=>Cj _ _ _ _ (fun e=>by subst e;exact hx.elim q4.1 q4.2))),(fun k0 k1=>q4)⟩
  | n9+16,h=>exact Bo h (by omega)
def HaE (w w':Ad) (B Hb:Nat) (f:Int) (n:Nat) (zs:List Int) (gs cs:Nat) (vl:Aj) (b:Nat) (Fs Fl Fw:Nat->Prop) (T:Ns):Prop:=
 ∃ vw' Fs' Fw',HaK w' B Hb f n T.N zs (V gs n cs) vl b T.m T.Y vw' Fs' Fl Fw'/\Trn w w' (fun x=>x=Hb\/Fs x\/Fw x)
theorem jI6 (B Hb:Nat) (f:Int) (n:Nat) (zs:List Int) (gs cs:Nat) (vl:Aj) (b:Nat) (T:Ns) (vw:Aj) (Fs Fl Fw:Nat->Prop) (a:Int) (w:Ad) (h:HaK w B Hb f n T.N zs (V gs n cs) vl b T.m T.Y vw Fs Fl Fw) (hG:NsG f n zs T):Ak prog 132 #[Af Hb,a] w fun e w'=>∃ ok:Bool,e=Ae ok/\(ok=Aw↔(0<=a/\a<T.m)/\(hrT n zs T a.toNat).m<=3000)/\HaE w w' B Hb f n zs gs cs vl b Fs Fl Fw (if ok then hrT n zs T a.toNat else T):=by
 have b0:=hG.n10;by_cases hi:0<=a/\a<T.m
 .obtain⟨a7,rfl⟩:∃ k:Nat,a=(k:Int):=⟨a.toNat,by omega⟩;have ha:a7<T.m:=by omega
  rw[Cz];by_cases ht:ToP n zs (T.Y a7).t
  .have a0:(T.Y a7).t.toNat<n:=by have:=ht.1;omega
   have hd:=hG.nd a0;have eT:hrT n zs T a7=⟨fun i=>if i=(T.Y a7).t.toNat then hdN (T.N (T.Y a7).t.toNat) (T.Y a7) else T.N i,T.m-1+hdM (T.N (T.Y a7).t.toNat) (T.Y a7),wyS (T.m-1) (QH a7 T.Y) (hdY (T.N (T.Y a7).t.toNat) (T.Y a7))⟩:=by unfold hrT;rw[A6 ht]
   refine(jHc B Hb f n T.N zs gs cs vl b T.m T.Y vw Fs Fl Fw a7 (T.Y a7).t.toNat (T.N (T.Y a7).t.toNat) (T.Y a7) w h b0.2.2.1 ha a0 rfl rfl (show (T.Y a7).t=_ by have:=ht.1;omega) ht.2 hd.1 (hG.nh a0 (hG.y a7 ha))).mono ?_;rintro e w' ⟨rfl,h1,h2⟩;refine⟨_,rfl,?_,?_⟩
   .rw[eT,Gr];exact⟨fun k=>⟨hi,k⟩,fun k=>k.2⟩
   .by_cases c:T.m-1+hdM (T.N (T.Y a7).t.toNat) (T.Y a7)<=3000
    .rw[Bf c,A6 rfl,eT];exact h2 c
    .rw[Bh c];exact h1 (by omega)
  .have eT:hrT n zs T a7=⟨T.N,T.m-1,QH a7 T.Y⟩:=by unfold hrT;rw[A5 ht]
   refine(jHd B Hb f n T.N zs gs cs vl b T.m T.Y vw Fs Fl Fw a7 w h b0.2.2.1 ha ?_).mono ?_
   .by_cases k:0<=(T.Y a7).t/\(T.Y a7).t<n
    .exact .inr (Classical.not_not.1 (fun k2=>ht ⟨k,k2⟩))
    .exact .inl k
   .rintro e w' ⟨rfl,c0,hk,t⟩;refine⟨Aw,rfl,?_,?_⟩
    .rw[eT];exact⟨fun _=>⟨hi,by show T.m-1<=3000;omega⟩,fun _=>rfl⟩
    .rw[A6 rfl,eT];exact⟨c0,Fs,Fw,hk,t.mono (fun x hx=>hx.elim .inl (fun k=>.inr (.inr k)))⟩
 .refine(jI7 B Hb f n T.N zs _ vl b T.m T.Y vw Fs Fl Fw a w h hi).mono ?_;rintro e w' ⟨rfl,rfl⟩;exact⟨Av,rfl,⟨fun k=>(by cases k),fun k=>Bo k.1 hi⟩,vw,Fs,Fw,h,Trn.refl _ _⟩
end Go.Proofs.YtcaejlalnjnifaaGreat
