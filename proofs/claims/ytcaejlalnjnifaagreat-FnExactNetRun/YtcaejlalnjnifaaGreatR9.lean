import Derived.Test.YtcaejlalnjnifaaGreatR4
import Derived.Test.YtcaejlalnjnifaaGreatR5
import Derived.Deep.Matrix
import Derived.Lib.BufferWrite
import Derived.Laws.CopyOwn
set_option maxHeartbeats 8000000
set_option maxRecDepth 2000
open Go.Value renaming slice->V,pointer->Af,string->Ag,tuple->Ah,int->Ao,oneCell'->Aq
open Option renaming none->I,some->M
open Go.RowKit renaming Hid->H,Below->Ab
open Go.Addr renaming mk->Q
open Go renaming undef->O,World->Ad,Value->Aj,Calls->Ak,Addr->Al,maxLen->Au
open Go.Obj renaming cells->J
open Go.Ending renaming returned->Ae
open ByteArray renaming empty->Ap
open Go.IntKind renaming i64->Ar
open Bool renaming false->Av,true->Aw
open Go.Proofs.Tryz
open Go.ChangeShapes Go.WideShapes Go.ChangeAt Go.RowKit
namespace Go.Proofs.YtcaejlalnjnifaaGreat
section
def jPe (w:Ad) (a:OA) (n:Nat) (S:Nat->BA):Prop:=jL w a n S/\n<=Au/\∀ i,i<n->(S i).size<=Au
theorem jMn {w:Ad} {a:Al} {len cap m:Nat} {S:Nat->BA} (hl:len<=cap) (hm:cap<=Au) (c0:len<=m) (h:∀ i,i<m->w.cell? (a.add i)=M (Ag (S i))/\(S i).size<=Au):jPe w (M a) len S:=by
 refine⟨fun i hi=>?_,By hl hm,fun i hi=>(h i (by omega)).2⟩;have h1:=(h i (by omega)).1;obtain⟨b,off,b0⟩:=a;have a0:b0=I:=by
  have h0:=(h 0 (by omega)).1;simpa [Addr.add] using World.cell?_spot h0
 subst a0;have ea:∀ (b off i:Nat),((Q b off I):Al).add i=(Q b (off+i) I):=fun b off i=>by unfold Addr.add;split <;> simp_all
 rw[ea] at h1;exact⟨b,off,rfl,h1⟩
theorem jA4 (B E:Nat) (a:OA) (n cap:Nat) (S:Nat->BA) (k q:Nat) (w:Ad) (h:jIv w B E a n cap S) (hn:n<=1048576) (hk:k<=500000000) (hq:k+n=q):Ak prog 99 #[V a n cap,(k:Int)] w fun e w'=>e=Ae (q:Int)/\jIv w' B E a n cap (fun i=>vT (k+i))/\zD w w' B E:=by
 subst hq;have K0:H (jIv w B E a n cap (fun i=>if i<0 then vT (k+i) else S i)):=⟨h.1.congr (fun i _=>by simp),h.2⟩;clear h;go_enter func99,ntmps99
 go_wp2
 go_loopw [1,5] (fun p i wr=>∃ c x:Nat,c<=n/\k+c=x/\p=Ao Ar (x:Int)/\i=Ao Ar (c:Int)/\jIv wr B E a n cap (fun i=>if i<c then vT (k+i) else S i)/\zD w wr B E) (fun _ i _=>n-(intOf i).toNat)
 case atStart=>exact⟨0,k,Bi _,rfl,rfl,rfl,K0,zD.refl _ _ _⟩
 case round=>
  obtain⟨c,x,hc,hx,rfl,rfl,hR,hT⟩:=hrel;clear K0;by_cases hlt:c<n
  .have e0:(c:Int)<(n:Int):=by omega
   obtain⟨g,rfl⟩:∃ g,a=M (Q g 0 I):=by
    rcases jX hR.1 with ⟨_,h0,_⟩|⟨g,_,e,_⟩
    .omega
    .exact⟨g,e⟩
   have d0:=hR.2 _ rfl;have KR:H (jIv wr B E (Q g 0 I) n cap (fun i=>if i<c then vT (k+i) else S i)):=hR;have KT:H (zD w wr B E):=hT;clear hR hT;go_wp2_with fail
   refine(jM x _ (by omega)).mono ?_;rintro e w1 ⟨rfl,c0⟩;have a0:=KR.below c0;obtain⟨old,f0⟩:∃ v,w1.cell? (Q g c I)=M v:=by
    rw[Br a0.1 c (by omega)];exact⟨_,zB _ _ _ hlt⟩
   have g0:=B0 a0.1 c;have b0:=Dh a0.1 c (vT x);rw[jA8 _ _ _ _ hlt] at b0;have HO:H (jIv (w1.setCell (Q g c I) (vT x)) B E (Q g 0 I) n cap (fun i=>if i<c+1 then vT (k+i) else S i)):=⟨jI.congr b0.1 (fun i _=>by
    by_cases e:i=c
    .subst e;simp[hx]
    .by_cases e2:i<c
     .simp[e,e2,show i<c+1 by omega]
     .simp[e,e2,show ¬ i<c+1 by omega]),a0.2⟩
   have HT:H (zD w (w1.setCell (Q g c I) (vT x)) B E):=(KT.trans (zD.ofBelow B E c0)).trans (zD.set w1 c _ d0.1 d0.2);generalize vT x=mx at HO HT;clear b0 a0 KR KT;go_wp2
   go_roundw
   case rel=>exact⟨c+1,x+1,by omega,by omega,by go_num,by go_num,HO.out,HT.out⟩
   case measure=>simp[intOf] <;> omega
  .obtain rfl:c=n:=by omega
   subst hx;have HR:H (jIv wr B E a c cap (fun i=>vT (k+i))):=⟨hR.1.congr (fun i hi=>A6 hi),hR.2⟩;have HT:H (zD w wr B E):=hT;clear hR hT;go_wp2
   go_ret
   exact⟨rfl,HR,HT⟩
theorem Ow.put {w:Ad} {B t sz g n cap i:Nat} {f:Nat->Nat->Dt} {F F':Nat->Prop} {vs:List Aj} {d:Nat->Dt} {H:Nat->Nat->Prop} (h:Ow w B (.lst t sz n f) (V g n cap) F) (hi:i<n) (hl:vs.length=sz) (hv:∀ q,q<sz->(d q=f i q/\w.cell? (Q g (i*sz+q) I)=M (vs.getD q O))\/(Ow w B (d q) (vs.getD q O) (H q)/\∀ x,H q x->¬ F x)) (hE:∀ q q' x,q<sz->q'<sz->H q x->H q' x->q=q') (hF:∀ x,F x->F' x) (d0:∀ q x,q<sz->H q x->F' x):Ow (w.setCells g (i*sz) vs) B (.lst t sz n (fun i'=>if i'=i then d else f i')) (V g n cap) F':=by
 obtain⟨a,g0,c,G,e,ho,hs,hr⟩:=h;cases e;have hg:=hs.head _ rfl;have e0:=qJ hi vs 0 w c (by omega) ho;rw[Cp] at e0;have hK:∀ q,∃ K:Nat->Prop,q<sz->Ow w B (d q) (vs.getD q O) K/\((∀ x,K x->G i q x)\/(∀ x,K x->H q x/\¬ F x)):=fun q=>by
  by_cases hq:q<sz
  .rcases hv q hq with ⟨e1,e2⟩|⟨e1,e2⟩
   .refine⟨G i q,fun _=>⟨?_,.inl fun x hx=>hx⟩⟩;have h1:w.cell? (Q g (i*sz+q) I)=M (c i q):=by rw[Br ho _ (qM hi hq)];exact jU _ _ _ _ _ hi hq
    rw[h1] at e2;rw[<-Ee e2,e1];exact hr i q hi hq
   .exact⟨H q,fun _=>⟨e1,.inr fun x hx=>⟨hx,e2 x hx⟩⟩⟩
  .exact⟨fun _=>False,fun k=>Bo k hq⟩
 obtain⟨K,hK⟩:=Ew hK;have kF:∀ q x,q<sz->K q x->F' x:=fun q x hq hx=>by
  rcases (hK q hq).2 with k|k
  .exact hF _ (hs.sub _ _ _ hi hq (k x hx))
  .exact d0 _ _ hq (k x hx).1
 have kg:∀ q,q<sz->¬ K q g:=fun q hq hx=>by
  rcases (hK q hq).2 with k|k
  .exact hs.apart _ _ _ hi hq rfl (k g hx)
  .exact(k g hx).2 hg
 have kE:∀ q q' x,q<sz->q'<sz->K q x->K q' x->q=q':=fun q q' x hq b0 hx a0=>by
  rcases (hK q hq).2 with k|k <;> rcases (hK q' b0).2 with k'|k'
  .exact(hs.each _ _ _ _ _ hi hq hi b0 (k x hx) (k' x a0)).2
  .exact Bo (hs.sub _ _ _ hi hq (k x hx)) (k' x a0).2
  .exact Bo (hs.sub _ _ _ hi b0 (k' x a0)) (k x hx).2
  .exact hE _ _ _ hq b0 (k x hx).1 (k' x a0).1
 have kO:∀ q i2 q2 x,q<sz->i2<n->q2<sz->i2≠i->K q x->¬ G i2 q2 x:=fun q i2 q2 x hq h2 h3 f0 hx a0=>by
  rcases (hK q hq).2 with k|k
  .exact f0 (hs.each _ _ _ _ _ h2 h3 hi hq a0 (k x hx)).1
  .exact(k x hx).2 (hs.sub _ _ _ h2 h3 a0)
 refine⟨M (Q g 0 I),cap,_,fun i' q'=>if i'=i then K q' else G i' q',rfl,e0,⟨fun x hx=>by cases hx;exact hF _ hg,fun i' q' x c0 b0 hx=>?_,fun i' q' x c0 b0 ex hx=>?_,fun i1 q1 i2 q2 x h1 h2 h3 h4 hx a0=>?_⟩,fun i' q' c0 b0=>?_⟩
 .by_cases ei:i'=i
  .simp only[ei,C0] at hx;exact kF _ _ b0 hx
  .simp only[ei,Dj] at hx;exact hF _ (hs.sub _ _ _ c0 b0 hx)
 .cases ex;by_cases ei:i'=i
  .simp only[ei,C0] at hx;exact kg _ b0 hx
  .simp only[ei,Dj] at hx;exact hs.apart _ _ _ c0 b0 rfl hx
 .by_cases e1:i1=i
  .by_cases e2:i2=i
   .simp only[e1,e2,C0] at hx a0;exact⟨by omega,kE _ _ _ h2 h4 hx a0⟩
   .simp only[e1,e2,C0,Dj] at hx a0;exact Bo a0 (kO _ _ _ _ h2 h3 h4 e2 hx)
  .by_cases e2:i2=i
   .simp only[e1,e2,C0,Dj] at hx a0;exact Bo hx (kO _ _ _ _ h4 h1 h2 e1 a0)
   .simp only[e1,e2,Dj] at hx a0;exact hs.each _ _ _ _ _ h1 h2 h3 h4 hx a0
 .have keep:∀ {dd:Dt} {v:Aj} {K:Nat->Prop},Ow w B dd v K->(∀ x,K x->x≠g)->Ow (w.setCells g (i*sz) vs) B dd v K:=fun ho hk=>ho.frame fun x hx _=>jG g vs _ w x (hk x hx)
  by_cases ei:i'=i
  .simp only[ei,true_and,Bi,C0,Nat.sub_zero];exact keep (hK q' b0).1 (fun x hx e=>by subst e;exact kg _ b0 hx)
  .simp only[ei,false_and,Dj];exact keep (hr i' q' c0 b0) (fun x hx e=>by subst e;exact hs.apart _ _ _ c0 b0 rfl hx)
def MkS (w:Ad) (B t sz g n cap:Nat) (G:Nat->Nat->Nat->Prop) (D:Nat->Nat->Dt):Prop:=
 ∃ c,w.ownsRow B t sz (V g n cap) n (cL sz c n)/\∀ i q,i<n->q<sz->Ow w B (D i q) (c i q) (G i q)
theorem Ow.mk {w:Ad} {B t sz g n cap:Nat} {D:Nat->Nat->Dt} {F:Nat->Prop} (h:Ow w B (.lst t sz n D) (V g n cap) F):∃ G,Sep g n sz G F/\MkS w B t sz g n cap G D:=by
 obtain⟨a,a0,c,G,e,ho,hs,hr⟩:=h;cases e;exact⟨G,hs,c,ho,hr⟩
theorem MkS.ow {w:Ad} {B t sz g n cap:Nat} {G:Nat->Nat->Nat->Prop} {D:Nat->Nat->Dt} {F:Nat->Prop} (h:MkS w B t sz g n cap G D) (hs:Sep g n sz G F):Ow w B (.lst t sz n D) (V g n cap) F:=by
 obtain⟨c,ho,hr⟩:=h;exact⟨_,cap,c,G,rfl,ho,hs,hr⟩
theorem MkS.below {w w':Ad} {B t sz g n cap:Nat} {G:Nat->Nat->Nat->Prop} {D:Nat->Nat->Dt} (h:MkS w B t sz g n cap G D) (hb:Ab w w w'):MkS w' B t sz g n cap G D:=by
 obtain⟨c,ho,hr⟩:=h;exact⟨c,jE ho hb,fun i q hi hq=>(hr i q hi hq).below hb⟩
theorem MkS.congr {w:Ad} {B t sz g n cap:Nat} {G:Nat->Nat->Nat->Prop} {D D':Nat->Nat->Dt} (h:MkS w B t sz g n cap G D) (e:∀ i q,i<n->q<sz->D i q=D' i q):MkS w B t sz g n cap G D':=by
 obtain⟨c,ho,hr⟩:=h;exact⟨c,ho,fun i q hi hq=>by rw[<-e i q hi hq];exact hr i q hi hq⟩
theorem MkS.lt {w:Ad} {B t sz g n cap:Nat} {G:Nat->Nat->Nat->Prop} {D:Nat->Nat->Dt} (h:MkS w B t sz g n cap G D):B<=g/\g<w:=by
 obtain⟨c,ho,hr⟩:=h;exact A0 ho g rfl
theorem MkS.cell {w:Ad} {B t sz g n cap:Nat} {G:Nat->Nat->Nat->Prop} {D:Nat->Nat->Dt} (h:MkS w B t sz g n cap G D) {i q:Nat} (hi:i<n) (hq:q<sz):∃ v,w.cell? (Q g (i*sz+q) I)=M v/\w.frozen? (Q g (i*sz+q) I)=Av/\Ow w B (D i q) v (G i q):=by
 obtain⟨c,ho,hr⟩:=h;exact⟨c i q,by rw[Br ho _ (qM hi hq)];exact jU _ _ _ _ _ hi hq,B0 ho _,hr i q hi hq⟩
theorem MkS.set {w:Ad} {B t sz g n cap:Nat} {G:Nat->Nat->Nat->Prop} {D:Nat->Nat->Dt} {F:Nat->Prop} (h:MkS w B t sz g n cap G D) (hs:Sep g n sz G F) {i q:Nat} (hi:i<n) (hq:q<sz) (v:Aj):MkS (w.setCell (Q g (i*sz+q) I) v) B t sz g n cap G (fun i' q'=>if i'=i/\q'=q then .val v else D i' q'):=by
 obtain⟨c,ho,hr⟩:=h;have h1:=(Dh ho (i*sz+q) v).1;rw[jF3 _ _ _ _ _ _ hi hq] at h1;refine⟨_,h1,fun i' q' a0 b0=>?_⟩;by_cases e:i'=i/\q'=q
 .simp only[e,and_self,C0];rfl
 .simp only[e,Dj];exact(hr i' q' a0 b0).frame fun x hx _=>Cn w (Q g (i*sz+q) I) x v (fun ex=>by
   have c0:=ex;subst c0;exact hs.apart i' q' _ a0 b0 rfl hx)
theorem MkS.turn {w w':Ad} {B t sz g n cap:Nat} {G:Nat->Nat->Nat->Prop} {D:Nat->Nat->Dt} {F:Nat->Prop} (h:MkS w B t sz g n cap G D) (hs:Sep g n sz G F) {i q:Nat} (hi:i<n) (hq:q<sz) {v:Aj} {d:Dt} (hc:w.cell? (Q g (i*sz+q) I)=M v) (e0:Ow w' B d v (G i q)) (ht:Trn w w' (G i q)):MkS w' B t sz g n cap G (fun i' q'=>if i'=i/\q'=q then d else D i' q'):=by
 obtain⟨c,ho,hr⟩:=h;have hv:c i q=v:=by
  rw[Br ho _ (qM hi hq),jU _ _ _ _ _ hi hq] at hc;exact Ee hc
 have hg:=A0 ho g rfl;refine⟨c,⟨ho.1,?_⟩,fun i' q' b0 c0=>?_⟩
 .rcases ho.2 with h'|⟨g',a0,d0,h1,h2,h3,h4⟩
  .exact .inl h'
  .refine .inr ⟨g',a0,d0,h1,h2,?_,h4⟩;have e:g'=g:=by cases h1;rfl
   subst e;rw[ht.block g' hg.2 (hs.apart i q _ hi hq rfl)];exact h3
 .by_cases e:i'=i/\q'=q
  .simp only[e,and_self,C0];rw[hv];exact e0
  .simp only[e,Dj];exact(hr i' q' b0 c0).turned ht fun x hx f0=>e (hs.each i' q' i q x b0 c0 hi hq hx f0)
theorem QP (B:Nat) (v:Aj) (m:Nat) (S:Nat->BA) (k q:Nat) (F:Nat->Prop) (w:Ad) (h:Ow w B (txD m S) v F) (hn:m<=1048576) (hk:k<=500000000) (hq:k+m=q):Ak prog 99 #[v,(k:Int)] w fun e w'=>e=Ae (q:Int)/\Ow w' B (txD m (fun i=>vT (k+i))) v F/\Trn w w' F:=by
 obtain⟨a,cap,rfl,ho,hF⟩:=jEf h;cases a with
 | none=>
  refine(jA4 B B I m cap S k q w ⟨ho,fun x e=>by cases e⟩ hn hk hq).mono ?_;rintro e w' ⟨rfl,hR,hT⟩;exact⟨rfl,xQ hR.1 (fun x e=>by cases e),Trn.ofM hT (fun g h1 h2=>Bo h1 (by omega))⟩
 | some x=>
  have hx:x=(Q x.block 0 I):=by
   rcases jX ho with ⟨h0,_⟩|⟨g,b0,e,_⟩
   .cases h0
   .cases e;rfl
  have hB:=(A0 ho x.block (by rw[hx];rfl)).1;have c0:jIv w x.block (x.block+1) (M x) m cap S:=by
   refine⟨⟨ho.1,?_⟩,fun y e=>by cases e;exact⟨Ay _,by omega⟩⟩;rcases ho.2 with h'|⟨g',a0,b0,h',_,hr⟩
   .exact .inl h'
   .exact .inr ⟨g',a0,b0,h',by cases h';exact Ay _,hr⟩
  refine(jA4 x.block (x.block+1) (M x) m cap S k q w c0 hn hk hq).mono ?_;rintro e w' ⟨rfl,hR,hT⟩;exact⟨rfl,xQ (jI.base hR.1 hB) (fun y e=>by cases e;exact hF _ rfl),Trn.ofM hT (fun g h1 h2=>(show g=x.block by omega)▸hF _ rfl)⟩
def pf (F:Nat->Nat->Nat) (N:Nat->Nat):Nat->(Nat->Nat)×Nat
 | 0=>(Gp.one,1)
 | i+1=>(Gp.cv (pf F N i).1 (F i) (pf F N i).2,Gp.tl (Gp.cv (pf F N i).1 (F i) (pf F N i).2) ((pf F N i).2+N i))
def jQt (r b:BA) (m:Nat) (S:Nat->BA) (l:Nat):Int:=if r.size+b.size<=l then szF (fun i=>(S i).size) m (l-r.size-b.size) else -1
theorem jNs {r b:BA} {m:Nat} {S:Nat->BA} {l:Nat} (h:r.size+b.size+(m+tot (fun i=>(S i).size) m)<=l):jQt r b m S l=((l-(r.size+b.size+(m+tot (fun i=>(S i).size) m)):Nat):Int):=by
 unfold jQt szF;rw[A6 (by omega),A6 (by omega)];omega
theorem jQu {r b:BA} {m:Nat} {S:Nat->BA} {l:Nat} (h:¬ r.size+b.size+(m+tot (fun i=>(S i).size) m)<=l):jQt r b m S l = -1:=by
 unfold jQt szF;by_cases h1:r.size+b.size<=l
 .rw[A6 h1,A5 (by omega)]
 .rw[A5 h1]
theorem jGz (r:BA) (k n i:Int) (b:BA) (a:OA) (m cap:Nat) (S:Nat->BA) (l:Nat) (w:Ad) (h:jL w a m S) (hl:l<=1048576) (hm:m<=Au) (hL:∀ i,i<m->(S i).size<=Au) (hr:r.size<=Au) (hb:b.size<=Au):CB 143 #[pcV r k n i b (V a m cap),(l:Int)] w (jQt r b m S l):=by
 obtain⟨w0,a0⟩:=nmH (w.alloc (J (pcC r k n i b (V a m cap)) 64));have c0:=bl1 a0;have b0:=hd c0;have KT:=hd (h.below c0);obtain⟨x,hx⟩:∃ x,r.size=x:=⟨_,rfl⟩;obtain⟨y,hy⟩:∃ x,b.size=x:=⟨_,rfl⟩;unfold jQt;rw[hx,hy];unfold Au at hr hb;clear h c0;by_cases h1:l<x
 .have f0:(l:Int)-(x:Int)<0:=by omega
  have e1:IntKind.i64.wrap ((l:Int)-(x:Int))=(l:Int)-(x:Int):=by rw[A8];omega
  rw[A5 (by omega)];clear hL;go_enter func143,ntmps143
  go_wp2
  go_ret
  exact⟨rfl,by rw[<-a0.out];exact b0⟩
 obtain⟨l1,d0⟩:∃ l1,l=x+l1:=⟨l-x,by omega⟩;have e1:IntKind.i64.wrap ((l:Int)-(x:Int))=(l1:Int):=by rw[A8];omega
 have p1:¬ ((l1:Int)<0):=by omega
 by_cases h2:l1<y
 .have g0:(l1:Int)-(y:Int)<0:=by omega
  have e2:IntKind.i64.wrap ((l1:Int)-(y:Int))=(l1:Int)-(y:Int):=by rw[A8];omega
  rw[A5 (by omega)];clear hL d0;go_enter func143,ntmps143
  go_wp2
  go_ret
  exact⟨rfl,by rw[<-a0.out];exact b0⟩
 obtain⟨l2,e0⟩:∃ l2,l1=y+l2:=⟨l1-y,by omega⟩;have e2:IntKind.i64.wrap ((l1:Int)-(y:Int))=(l2:Int):=by rw[A8];omega
 have p2:¬ ((l2:Int)<0):=by omega
 rw[A6 (by omega),show l-x-y=l2 by omega];have KZ:=hd (jQv a m cap S l2 w0 KT (by omega) hm hL);clear hL d0 e0;by_cases h3:m+tot (fun i=>(S i).size) m<=l2
 obtain⟨z,hz⟩:∃ z:Nat,szF (fun i=>(S i).size) m l2=(z:Int):=⟨l2-(m+tot (fun i=>(S i).size) m),by unfold szF;rw[A6 h3]⟩;rw[hz] at KZ |-;have p3:¬ ((z:Int)<0):=by omega
 rotate_left;have hz:szF (fun i=>(S i).size) m l2 = -1:=by unfold szF;rw[A5 h3]
 rw[hz] at KZ |-;rotate_left;all_goals
  clear hz h3;go_enter func143,ntmps143
  go_wp2_with fail
  rw[<-a0.out];refine CM KZ.out fun w' hw=>?_
  obtain rfl:=hw.symm;clear hw;go_wp2
  go_ret
  exact⟨rfl,b0⟩
theorem jG1 (r:BA) (k n i:Int) (b:BA) (a:OA) (m cap:Nat) (S:Nat->BA) (w:Ad) (h:jL w a m S) (hm:m<=1048576):Ak prog 145 #[pcV r k n i b (.slice a m cap)] w fun e w'=>∃ g,e=Ae (pcV r k n i b (.slice (Q g 0 I) m m))/\jI w' w (Q g 0 I) m m S/\Ab w w w':=by
 obtain⟨D,HD⟩:=nmH (w.1.size+1);obtain⟨V,HV⟩:=nmH (w.1.size+1+1);obtain⟨w0,e0⟩:=nmH (((w.alloc (J (pcC r k n i b (.slice a m cap)) 64)).alloc (J (pcC ⟨#[]⟩ 0 0 0 ⟨#[]⟩ (.slice I 0 0)) 29)).alloc (J (pcC r k n i b (.slice I 0 0)) 29));have m0:=zE e0 HV;have k0:=xV e0 HD;have j0:=bl3 e0;have i0:H (V≠D/\w.1.size<=D/\w.1.size<=V):=by
  have:=HV.out;have:=HD.out;exact⟨by omega,by omega,by omega⟩
 have h0:H (Ab w w w0):=j0;have KT:H (Ak prog 174 #[.slice a m cap] w0 fun e w'=>e=Ae (.slice (Q w0 0 I) m m)/\jI w' w0 (Q w0 0 I) m m S/\Ab w0 w0 w'):=jQy a m cap S w0 (h.below j0) hm;obtain⟨g,HG⟩:=nmH w0.1.size;rw[<-HG.out] at KT;clear h j0;go_enter func145,ntmps145
 go_wp2_with fail
 rw[<-e0.out,<-HV.out,<-HD.out];rw[HG.out] at KT;refine Ax KT.out ?_;rw[<-HG.out];rintro e w1 ⟨rfl,O1,b1⟩;have n0:=m0.lt;have b0:=k0.lt;have g0:H (Row w1 V 29 (pcC r k n i b (.slice I 0 0))):=m0.below (HG.out▸b1) n0;have o0:H (Row w1 D 29 (pcC ⟨#[]⟩ 0 0 0 ⟨#[]⟩ (.slice I 0 0))):=k0.below (HG.out▸b1) b0;obtain⟨w2,d0⟩:=nmH (w1.setCell (Q V 5 I) (.slice (Q g 0 I) m m));have p0:H (Row w2 V 29 (pcC r k n i b (.slice (Q g 0 I) m m))):=by show Row _ _ _ _;rw[d0.out];exact g0.set 5 _
 have a0:H (Row w2 D 29 (pcC ⟨#[]⟩ 0 0 0 ⟨#[]⟩ (.slice I 0 0))):=by show Row _ _ _ _;rw[d0.out];exact o0.other 5 _ (Cj i0.1)
 have O2:H (jI w2 w0 (Q g 0 I) m m S):=by show jI _ _ _ _ _ _;rw[d0.out];exact jI.setFar (HG.out▸O1) n0
 have q0:H (Ab w w w2):=by show Ab _ _ _;rw[d0.out];exact(h0.trans ((HG.out▸b1:Ab w0 w0 w1).mono h0.size)).setCell i0.2.2 _
 have v5:=g0.cell 5;have vf:=g0.free 5;simp at v5;clear b1 O1 KT;go_wp2_with (rw[<-d0.out];refine Bb rfl 29 _ rfl V rfl 29 _ (0,0) _ p0 underlying29 rfl Tryz.infoPc ?_;clear v5 vf;have x0:=a0.out.cell 0;have x1:=a0.cell 1;have x2:=a0.cell 2;have x3:=a0.cell 3;have x4:=a0.cell 4;have x5:=a0.cell 5;have f0:=a0.free 0;have f1:=a0.free 1;have f2:=a0.free 2;have f3:=a0.free 3;have f4:=a0.free 4;have f5:=a0.free 5;simp at x0 x1 x2 x3 x4 x5)
 have ZR:H (Row ((((((w2.setCell D r).setCell (Q D 1 I) k).setCell (Q D 2 I) n).setCell (Q D 3 I) i).setCell (Q D 4 I) b).setCell (Q D 5 I) (.slice (Q g 0 I) m m)) D 29 (pcC r k n i b (.slice (Q g 0 I) m m))):=(((((a0.set 0 _).set 1 _).set 2 _).set 3 _).set 4 _).set 5 _;have ZO:H (jI ((((((w2.setCell D r).setCell (Q D 1 I) k).setCell (Q D 2 I) n).setCell (Q D 3 I) i).setCell (Q D 4 I) b).setCell (Q D 5 I) (.slice (Q g 0 I) m m)) w (Q g 0 I) m m S):=jI.base (jI.setFar (jI.setFar (jI.setFar (jI.setFar (jI.setFar (jI.setFar O2 b0) b0) b0) b0) b0) b0) h0.size;have c0:=i0.2.1;refine B7 (v:=pcV r k n i b (.slice (Q g 0 I) m m)) (Ck results145 _ _ D 29 _ (0,0) _ (by simp) ZR underlying29 rfl Tryz.infoPc) rfl ⟨g,rfl,ZO,?_⟩;exact Bn (Bn (Bn (Bn (Bn (Bn q0 c0 _) c0 _) c0 _) c0 _) c0 _) c0 _
theorem jC0 (r:BA) (k n i:Int) (b:BA) (a a':OA) (m ca a0:Nat) (S:Nat->BA) (w:Ad) (h:jL w a m S) (h':jL w a' m S) (hm:m<=1048576):CB 147 #[pcV r k n i b (V a m ca),pcV r k n i b (V a' m a0)] w Aw:=by
 obtain⟨w0,c0⟩:=nmH ((w.alloc (J (pcC r k n i b (V a m ca)) 29)).alloc (J (pcC r k n i b (V a' m a0)) 29));have b0:=bl2 c0;have d0:=hd b0;have KE:H _:=jMb a a' m ca a0 S w0 (h.below b0) (h'.below b0) hm;have e0:(r.toList !=r.toList)=Av:=by simp
 have f0:=vD r;have g0:(b.toList !=b.toList)=Av:=by simp
 have h0:=vD b;have i0:(k !=k)=Av:=by simp
 have j0:(n !=n)=Av:=by simp
 have k0:(i !=i)=Av:=by simp
 go_enter func147,ntmps147
 go_wp2_with fail
 rw[<-c0.out];refine CM KE.out fun w1 b1=>?_
 go_wp2
 go_ret
 exact⟨rfl,jA d0 b1⟩
theorem Ow.putRow {w:Ad} {B t sz g n cap k:Nat} {f:Nat->Nat->Dt} {F:Nat->Prop} (h:Ow w B (.lst t sz n f) (V g n cap) F) (hk:k<n) (vs:List Aj) (hl:vs.length=sz) (d:Nat->Dt) (H:Nat->Nat->Prop) (hv:∀ q,q<sz->Ow w B (d q) (vs.getD q O) (H q)) (hH:∀ q x,q<sz->H q x->¬ F x) (d0:∀ q q' x,q<sz->q'<sz->H q x->H q' x->q=q'):Ow (w.setCells g (k*sz) vs) B (.lst t sz n (fun i q=>if i=k then d q else f i q)) (V g n cap) (fun x=>F x\/∃ q,q<sz/\H q x):=by
 obtain⟨a,e0,c,G,e,ho,hs,hr⟩:=h;cases e;have hg:F g:=hs.head _ rfl;have c0:=qJ hk vs 0 w c (by omega) ho;rw[Cp] at c0;refine⟨_,_,_,fun i q=>if i=k then H q else G i q,rfl,c0,⟨fun x hx=>.inl (hs.head x hx),fun i q x hi hq hx=>?_,fun i q x hi hq hx k9=>?_,fun i q i' q' x hi hq b0 a0 h1 h2=>?_⟩,fun i q hi hq=>?_⟩
 .by_cases e:i=k
  .rw[A6 e] at hx;exact .inr ⟨q,hq,hx⟩
  .rw[A5 e] at hx;exact .inl (hs.sub i q x hi hq hx)
 .cases hx;by_cases e:i=k
  .rw[A6 e] at k9;exact hH q g hq k9 hg
  .rw[A5 e] at k9;exact hs.apart i q _ hi hq rfl k9
 .by_cases e:i=k
  .rw[A6 e] at h1;by_cases e':i'=k
   .rw[A6 e'] at h2;exact⟨e.trans e'.symm,d0 q q' x hq a0 h1 h2⟩
   .rw[A5 e'] at h2;exact Bo (hs.sub i' q' x b0 a0 h2) (hH q x hq h1)
  .rw[A5 e] at h1;by_cases e':i'=k
   .rw[A6 e'] at h2;exact Bo (hs.sub i q x hi hq h1) (hH q' x a0 h2)
   .rw[A5 e'] at h2;exact hs.each i q i' q' x hi hq b0 a0 h1 h2
 .by_cases e:i=k
  .subst e;have h1:=(hv q hq).frame (w':=w.setCells g (i*sz) vs) fun x hx _=>jG g _ _ w x (fun e=>hH q x hq hx (by rw[e];exact hg))
   simpa using h1
  .simp only[e,Dj,false_and];exact(hr i q hi hq).frame fun x hx _=>jG g _ _ w x (fun e=>hs.apart i q _ hi hq rfl (by rw[<-e];exact hx))
theorem jRw {α:Type} (l:List α) (h:l.length=6):∃ a b c d e f,l=[a,b,c,d,e,f]:=by
 match l,h with
 | [a,b,c,d,e,f],_=>exact⟨a,b,c,d,e,f,rfl⟩
theorem XJ {H:Type} {enc:TypeId×Aj->H} {w:Ad} {base:Nat} {d0:Nat->Bool} {i0:Bool} {h0:Nat} {cs:List Aj} {x:DataW H×List MemPlace} (h:DataW.trod enc prog w base d0 i0 h0 64 cs=M x):∃ (r:BA) (k n i:Int) (b:BA) (a:OA) (m c:Nat) (S:Nat->BA),cs=[Ag r,Ao Ar k,Ao Ar n,Ao Ar i,Ag b,V a m c]/\((Lit.int Ar k).wf=Aw/\(Lit.int Ar n).wf=Aw/\(Lit.int Ar i).wf=Aw)/\r.size<=Au/\b.size<=Au/\jPe w a m S:=by
 have c6:Tryz.prog.cellsOf 64=6:=by kernel_rfl
 have f0:Tryz.prog.cellsOf 9=1:=by kernel_rfl
 have k0:Tryz.prog.cellsOf 3=1:=by kernel_rfl
 have m0:Tryz.prog.cellsOf 27=1:=by kernel_rfl
 obtain⟨xs,f,_,_,hl,j0,hf⟩:=Ex underlying64 h;rw[c6] at hl;obtain⟨c0,c1,c2,c3,c4,c5,rfl⟩:=jRw cs hl;obtain⟨y0,y1,y2,y3,y4,y5,rfl⟩:=jRw xs j0;have g0:=hf 0 _ rfl;have g1:=hf 1 _ rfl;have g2:=hf 2 _ rfl;have g3:=hf 3 _ rfl;have g4:=hf 4 _ rfl;have g5:=hf 5 _ rfl;simp[f0,k0,m0] at g0 g1 g2 g3 g4 g5;obtain⟨r,e0,_,hr⟩:=Fi C6 g0;obtain⟨k,e1,_,u1⟩:=Dr Dd g1;obtain⟨n,e2,_,u2⟩:=Dr Dd g2;obtain⟨i,e3,_,u3⟩:=Dr Dd g3;obtain⟨b,e4,_,hb⟩:=Fi C6 g4;simp at e0 e1 e2 e3 e4;subst e0 e1 e2 e3 e4;rcases Go.Deep.open_strs C3 C6 f0 g5 with ⟨a0,_⟩|⟨ad,l,c,m,Sx,a0,_,n0,hm,o0,_,b0⟩
 .simp at a0;subst a0;exact⟨r,k,n,i,b,I,0,0,fun _=>Ap,rfl,⟨u1,u2,u3⟩,hr,hb,fun i hi=>Bo hi (Bk _),Bi _,fun i hi=>Bo hi (Bk _)⟩
 .simp at a0;subst a0;exact⟨r,k,n,i,b,M ad,l,c,Sx,rfl,⟨u1,u2,u3⟩,hr,hb,jMn n0 hm (by rw[o0];split <;> omega) b0⟩
theorem jJo (a:OA) (n cap k q:Nat) (w:Ad) (h:jH w a n (jW k n)) (hn:n<=1048576) (hk:k<=500000000) (hq:k+n=q):CS 96 #[V a n cap,(k:Int)] w (q:Int):=by
 subst hq;exact jMj a n cap k w h hn hk
def jCo (w:Ad) (B g n cap:Nat) (f:Nat->Nat):Prop:=w.ownsRow B 3 1 (V g n cap) n ((eI f n).map (Ao Ar))
theorem jCo.lt {w:Ad} {B g n cap:Nat} {f:Nat->Nat} (h:jCo w B g n cap f):B<=g/\g<w:=A0 h g rfl
theorem jI9 (f:Nat->Nat) (k:Nat):eI f (k+1)=eI f k++[((f k:Nat):Int)]:=by
 unfold eI;rw[List.range_succ,Dw];rfl
theorem jCo.snoc {w:Ad} {B g k cap:Nat} {f:Nat->Nat} (h:w.ownsRow B 3 1 (V g (k+1) cap) (k+1) ((eI f k).map (Ao Ar)++[Ao Ar ((f k:Nat):Int)])):jCo w B g (k+1) cap f:=by
 unfold jCo;rw[jI9,Dw];exact h
theorem lit0 (w:Ad) (f:Nat->Nat):jCo (w.alloc (J #[] 3)) w w.1.size 0 0 f:=
 Cc w #[] 0 (Ay _) (by unfold Au;omega) rfl
def zI (z:Nat->Int) (n:Nat):List Int:=(List.range n).map z
theorem jHb (z:Nat->Int) (n:Nat):(zI z n).length=n:=by simp[zI]
theorem jSn (z:Nat->Int) (n i:Nat) (h:i<n):(zI z n)[i]?=M (z i):=by simp[zI,h]
theorem jCl {f g:Nat->Int} {n:Nat} (h:∀ i,i<n->f i=g i):zI f n=zI g n:=by
 unfold zI;apply El
 intro i hi;rw[h i (Fc.1 hi)]
theorem jSo (z:Nat->Int) (n k:Nat) (v:Int) (d:IntKind) (h:k<n):((zI z n).map (Ao d)).set k (Ao d v)=(zI (fun i=>if i=k then v else z i) n).map (Ao d):=by
 apply Co
 intro i;rw[Ey];by_cases hi:i<n
 .by_cases e:k=i
  .subst e;simp[zI,h]
  .simp[zI,hi,e,Cj e]
 .by_cases e:k=i
  .omega
  .rw[A5 e,Be (by simp[jHb];omega),Be (by simp[jHb];omega)]
theorem jN3 {z:Nat->Int} (n:Nat) (v:Int) (h:∀ i,i<n->z i=v):zI z n=List.replicate n v:=by
 apply Co
 intro i;by_cases hi:i<n
 .rw[jSn z n i hi,h i hi];simp[hi]
 .rw[Be (by rw[jHb];omega),Be (by simp;omega)]
def hds (A:Nat->OA) (L C:Nat->Nat) (n:Nat):List Aj:=(List.range n).map fun i=>V (A i) (L i) (C i)
theorem ZX (A:Nat->OA) (L C:Nat->Nat) (n:Nat):(hds A L C n).length=n:=by simp[hds]
theorem ZW (A:Nat->OA) (L C:Nat->Nat) (n i:Nat) (h:i<n):(hds A L C n)[i]?=M (V (A i) (L i) (C i)):=by simp[hds,h]
theorem jPw (A:Nat->OA) (L C:Nat->Nat) (n k:Nat) (x:OA) (l c:Nat):(hds A L C n).set k (V x l c)=hds (fun i=>if i=k then x else A i) (fun i=>if i=k then l else L i) (fun i=>if i=k then c else C i) n:=by
 apply Co
 intro i;rw[Ey];by_cases hi:i<n
 .rw[ZW (fun i=>if i=k then x else A i) _ _ _ _ hi];by_cases e:k=i
  .subst e;rw[A6 rfl,A6 (by rw[ZX];exact hi)];simp
  .rw[A5 e,ZW _ _ _ _ _ hi];simp[Cj e]
 .rw[Be (l:=hds (fun i=>if i=k then x else A i) _ _ _) (by rw[ZX];omega)];by_cases e:k=i
  .subst e;rw[A6 rfl,A5 (by rw[ZX];omega)]
  .rw[A5 e,Be (by rw[ZX];omega)]
theorem jC3 {A A':Nat->OA} {L L' C C':Nat->Nat} {n:Nat} (h:∀ i,i<n->A i=A' i/\L i=L' i/\C i=C' i):hds A L C n=hds A' L' C' n:=by
 unfold hds;apply El
 intro i hi;obtain⟨h1,h2,h3⟩:=h i (Fc.1 hi);rw[h1,h2,h3]
theorem jF7 (A:Nat->OA) (L C:Nat->Nat) (n:Nat):hds A L C (n+1)=hds A L C n++[V (A n) (L n) (C n)]:=by
 unfold hds;rw[List.range_succ,Dw];rfl
structure vQ (k:IntKind) (T TT:Nat) (w:Ad) (B E:Nat) (a:OA) (n cap:Nat) (A:Nat->OA) (L C:Nat->Nat) (Z:Nat->Nat->Int):Prop where
 out:w.ownsRow B TT 1 (V a n cap) n (hds A L C n)
 oE:∀ x,a=M x->x.block<E
 row:∀ i,i<n->w.ownsRow B T 1 (V (A i) (L i) (C i)) (L i) ((zI (Z i) (L i)).map (Ao k))
 rE:∀ i,i<n->∀ x,A i=M x->x.block<E
 apart:∀ i j,i<n->j<n->i≠j->∀ x y,A i=M x->A j=M y->x.block≠y.block
section
variable {k:IntKind} {T TT:Nat} {w w':World} {B E:Nat} {a:Option Addr} {n cap:Nat} {A:Nat->Option Addr} {L C:Nat->Nat} {Z:Nat->Nat->Int}
theorem vQ.addr (h:vQ k T TT w B E a n cap A L C Z) (hn:0<n):∃ G,a=M (Q G 0 I):=by
 rcases jX h.out with ⟨_,h0,_⟩|⟨g,_,e,_⟩
 .omega
 .exact⟨g,e⟩
theorem vQ.hdr {G i:Nat} (h:vQ k T TT w B E G n cap A L C Z) (hi:i<n):w.cell? (Q G i I)=M (V (A i) (L i) (C i)):=by
 rw[h.out.cellAt i (by omega),ZW _ _ _ _ _ hi]
theorem vQ.elt {g i j:Nat} (h:vQ k T TT w B E a n cap A L C Z) (hi:i<n) (hA:A i=g) (hj:j<L i):w.cell? (Q g j I)=M (Ao k (Z i j)):=by
 have hr:=h.row i hi;rw[hA] at hr;rw[hr.cellAt j (by omega)];simp[zI,hj]
theorem vQ.free {g i:Nat} (h:vQ k T TT w B E a n cap A L C Z) (hi:i<n) (hA:A i=g) (j:Nat):w.frozen? (Q g j I)=Av:=by
 have hr:=h.row i hi;rw[hA] at hr;exact hr.frozenAt j
theorem vQ.ofree {G:Nat} (h:vQ k T TT w B E G n cap A L C Z) (j:Nat):w.frozen? (Q G j I)=Av:=h.out.frozenAt j
theorem vQ.olt {G:Nat} (h:vQ k T TT w B E G n cap A L C Z):B<=G/\G<w:=h.out.lt G rfl
theorem vQ.glt {g i:Nat} (h:vQ k T TT w B E a n cap A L C Z) (hi:i<n) (hA:A i=g):B<=g/\g<w:=by
 have hr:=h.row i hi;rw[hA] at hr;exact hr.lt g rfl
theorem vQ.off (hT:T≠TT) {g G i:Nat} (h:vQ k T TT w B E G n cap A L C Z) (hi:i<n) (hA:A i=g):g≠G:=by
 intro e;subst e;have hr:=h.row i hi;rw[hA] at hr;rcases jX hr with ⟨h',_⟩|⟨g1,c1,e1,_,b0,_⟩
 .cases h'
 .rcases jX h.out with ⟨h',_⟩|⟨g2,c2,e2,_,a0,_⟩
  .cases h'
  .cases e1;cases e2;rw[b0] at a0;cases a0;exact hT rfl
theorem vQ.below (h:vQ k T TT w B E a n cap A L C Z) (hb:Ab w w w'):vQ k T TT w' B E a n cap A L C Z:=
 ⟨jE h.out hb,h.oE,fun i hi=>jE (h.row i hi) hb,h.rE,h.apart⟩
theorem vQ.wide {E':Nat} (h:vQ k T TT w B E a n cap A L C Z) (hE:E<=E'):vQ k T TT w B E' a n cap A L C Z:=
 ⟨h.out,fun x e=>Bu (h.oE x e) hE,h.row,fun i hi x e=>Bu (h.rE i hi x e) hE,h.apart⟩
theorem vQ.congr {A':Nat->OA} {L' C':Nat->Nat} {Z':Nat->Nat->Int} (h:vQ k T TT w B E a n cap A L C Z) (e:∀ i,i<n->A i=A' i/\L i=L' i/\C i=C' i/\∀ j,j<L i->Z i j=Z' i j):vQ k T TT w B E a n cap A' L' C' Z':=by
 refine⟨?_,h.oE,fun i hi=>?_,fun i hi x ex=>?_,fun i j hi hj a0 x y ex ey=>?_⟩
 .rw[<-jC3 (fun i hi=>⟨(e i hi).1,(e i hi).2.1,(e i hi).2.2.1⟩)];exact h.out
 .obtain⟨e1,e2,e3,e4⟩:=e i hi;have hr:=h.row i hi;rw[jCl e4,e1,e2,e3] at hr;exact hr
 .exact h.rE i hi x ((e i hi).1.trans ex)
 .exact h.apart i j hi hj a0 x y ((e i hi).1.trans ex) ((e j hj).1.trans ey)
theorem vQ.kept {b:Nat} (h:vQ k T TT w B E a n cap A L C Z) (hg:w.grownBy w' (M b)) (ho:∀ x,a=M x->x.block≠b) (hr:∀ i,i<n->∀ x,A i=M x->x.block≠b):vQ k T TT w' B E a n cap A L C Z:=
 ⟨jK h.out hg ho,h.oE,fun i hi=>jK (h.row i hi) hg (hr i hi),h.rE,h.apart⟩
theorem vQ.keptE {b:Nat} (h:vQ k T TT w B E a n cap A L C Z) (hg:w.grownBy w' (M b)) (hb:E<=b):vQ k T TT w' B E a n cap A L C Z:=
 h.kept hg (fun x e=>by have:=h.oE x e;omega) (fun i hi x e=>by have:=h.rE i hi x e;omega)
theorem vQ.setElt (hT:T≠TT) {g i j:Nat} (h:vQ k T TT w B E a n cap A L C Z) (hi:i<n) (hA:A i=g) (hj:j<L i) (v:Int):vQ k T TT (w.setCell (Q g j I) (Ao k v)) B E a n cap A L C (fun p q=>if p=i/\q=j then v else Z p q)/\w.grownBy (w.setCell (Q g j I) (Ao k v)) (M g):=by
 have hg:=jP w g j (Ao k v);obtain⟨G,rfl⟩:=h.addr (by omega);refine⟨⟨jK h.out hg (fun x e=>by cases e;exact(h.off hT hi hA).symm),h.oE,fun p hp=>?_,h.rE,h.apart⟩,hg⟩;by_cases e:p=i
 .subst e;have hr:=h.row p hp;rw[hA] at hr |-;have h1:=(hr.stored j (Ao k v)).1;rw[jSo _ _ _ _ _ hj] at h1;rw[jCl (g:=fun q=>if q=j then v else Z p q) (fun q _=>by simp)];exact h1
 .have hr:=jK (h.row p hp) hg (fun x ex=>h.apart p i hp hi e x _ ex hA);rw[jCl (f:=fun q=>if p=i/\q=j then v else Z p q) (g:=Z p) (fun q _=>by simp[e])];exact hr
theorem vQ.setRow (hT:T≠TT) {G g i l c:Nat} {z:Nat->Int} (h:vQ k T TT w B E G n cap A L C Z) (hi:i<n) (a0:w.ownsRow B T 1 (V g l c) l ((zI z l).map (Ao k))) (hE:g<E) (b0:∀ j,j<n->j≠i->∀ x,A j=M x->x.block≠g):vQ k T TT (w.setCell (Q G i I) (V g l c)) B E G n cap (fun j=>if j=i then M (Q g 0 I) else A j) (fun j=>if j=i then l else L j) (fun j=>if j=i then c else C j) (fun j=>if j=i then z else Z j)/\w.grownBy (w.setCell (Q G i I) (V g l c)) (M G):=by
 have hg:=jP w G i (V g l c);have e0:g≠G:=by
  intro e;subst e;rcases jX a0 with ⟨h',_⟩|⟨g1,c1,e1,_,d0,_⟩
  .cases h'
  .rcases jX h.out with ⟨h',_⟩|⟨g2,c2,e2,_,c0,_⟩
   .cases h'
   .cases e1;cases e2;rw[d0] at c0;cases c0;exact hT rfl
 refine⟨⟨?_,h.oE,fun p hp=>?_,fun p hp x ex=>?_,fun p q hp hq f0 x y ex ey=>?_⟩,hg⟩
 .have h1:=(h.out.stored i (V g l c)).1;rw[jPw] at h1;exact h1
 .by_cases e:p=i
  .subst e;simp only[A6];exact jK a0 hg (fun x ex=>by cases ex;exact e0)
  .simp only[A5 e];refine jK (h.row p hp) hg (fun x ex=>?_);have hr:=h.row p hp;rw[ex] at hr;rcases jX hr with ⟨h',_⟩|⟨g1,c1,e1,_⟩
   .cases h'
   .cases e1;exact h.off hT hp ex
 .by_cases e:p=i
  .simp only[A6 e] at ex;cases ex;exact hE
  .simp only[A5 e] at ex;exact h.rE p hp x ex
 .by_cases e:p=i
  .simp only[A6 e] at ex;cases ex;simp only[A5 (show q≠i by omega)] at ey;exact(b0 q hq (by omega) y ey).symm
  .simp only[A5 e] at ex;by_cases e2:q=i
   .simp only[A6 e2] at ey;cases ey;exact b0 p hp e x ex
   .simp only[A5 e2] at ey;exact h.apart p q hp hq f0 x y ex ey
theorem vQ.push (hT:T≠TT) {E':Nat} {a':OA} {a0 l c:Nat} {x:OA} {z:Nat->Int} (h:vQ k T TT w B E a n cap A L C Z) (hg:w.grownBy w' (V a n cap).ownBlock) (b0:w'.ownsRow B TT 1 (V a' (n+1) a0) (n+1) (hds A L C n++[V x l c])) (g0:w'.1.size<=E') (hE:E<=E') (c0:w.ownsRow B T 1 (V x l c) l ((zI z l).map (Ao k))) (d0:∀ j,j<n->∀ y u,A j=M y->x=M u->y.block≠u.block):vQ k T TT w' B E' a' (n+1) a0 (fun j=>if j=n then x else A j) (fun j=>if j=n then l else L j) (fun j=>if j=n then c else C j) (fun j=>if j=n then z else Z j):=by
 have f0:∀ (u:OA) (l c:Nat) (xs:List Aj),w.ownsRow B T 1 (V u l c) l xs->w'.ownsRow B T 1 (V u l c) l xs:=by
  intro u l c xs hr;refine World.ownsRow.kept hr hg ?_;rcases jX hr with ⟨rfl,_⟩|⟨g1,c1,rfl,_,h0,_⟩
  .exact .inl rfl
  .right
   rcases jX h.out with ⟨rfl,_⟩|⟨g2,c2,rfl,_,e0,_⟩
   .simp[Value.ownBlock]
   .simp only[Value.ownBlock,ne_eq,Option.some.injEq];intro e;subst e;rw[h0] at e0;cases e0;exact hT rfl
 refine⟨?_,fun y e=>?_,fun i hi=>?_,fun i hi y e=>?_,fun i j hi hj i0 y u e1 e2=>?_⟩
 .rw[jF7];simp only[A6];rw[<-jC3 (A:=A) (L:=L) (C:=C) (fun i hi=>by simp[show i≠n by omega])];exact b0
 .subst e;exact Bu (b0.lt y.block rfl).2 g0
 .by_cases e:i=n
  .subst e;simp only[A6];exact f0 _ _ _ _ c0
  .simp only[A5 e];exact f0 _ _ _ _ (h.row i (by omega))
 .by_cases e':i=n
  .subst e';simp only[A6] at e;subst e;exact Bu (Bu (c0.lt y.block rfl).2 hg.size) g0
  .simp only[A5 e'] at e;exact Bu (h.rE i (by omega) y e) hE
 .by_cases e:i=n
  .subst e;simp only[A6] at e1;simp only[A5 (show j≠i by omega)] at e2;exact(d0 j (by omega) u y e2 e1).symm
  .simp only[A5 e] at e1;by_cases e':j=n
   .subst e';simp only[A6] at e2;exact d0 i (by omega) y u e1 e2
   .simp only[A5 e'] at e2;exact h.apart i j (by omega) (by omega) i0 y u e1 e2
theorem vQ.nil (k:IntKind) (T TT:Nat) (w:Ad) (B E:Nat) (A:Nat->OA) (L C:Nat->Nat) (Z:Nat->Nat->Int):vQ k T TT w B E I 0 0 A L C Z:=
 ⟨Fm w B _ _,fun x e=>(by cases e),fun i hi=>by omega,fun i hi=>by omega,fun i j hi=>by omega⟩
theorem vQ.zero {G c:Nat} (k:IntKind) (T TT:Nat) (w:Ad) (B E:Nat) (A:Nat->OA) (L C:Nat->Nat) (Z:Nat->Nat->Int) (h:w.ownsRow B TT 1 (V G 0 c) 0 []) (hE:G<E):vQ k T TT w B E G 0 c A L C Z:=
 ⟨h,fun x e=>by cases e;exact hE,fun i hi=>by omega,fun i hi=>by omega,fun i j hi=>by omega⟩
theorem vQ.made {G:Nat} (h:w.ownsRow B TT 1 (V G n n) n (List.replicate n (V I 0 0))) (hE:G<E) (Z:Nat->Nat->Int):vQ k T TT w B E G n n (fun _=>I) (fun _=>0) (fun _=>0) Z:=by
 refine⟨?_,fun x e=>by cases e;exact hE,fun i _=>Fm w B _ _,fun i _ x e=>(by cases e),fun i j _ _ _ x y e=>(by cases e)⟩;have e:hds (fun _=>I) (fun _=>0) (fun _=>0) n=List.replicate n (V I 0 0):=by
  apply Co
  intro i;by_cases hi:i<n
  .rw[ZW _ _ _ _ _ hi];simp[hi]
  .rw[Be (by rw[ZX];omega),Be (by simp;omega)]
 rw[e];exact h
end
def ZN (w:Ad) (a:OA) (n:Nat) (L:Nat->Nat) (Z:Nat->Nat->Int):Prop:=
 ∀ i,i<n->∃ b off ai ci,a=M (Q b off I)/\w.cell? (Q b (off+i) I)=M (V ai (L i) ci)/\jH w ai (L i) (zI (Z i) (L i))
theorem ZN.below {w w':Ad} {a:OA} {n:Nat} {L:Nat->Nat} {Z:Nat->Nat->Int} (h:ZN w a n L Z) (hb:Ab w w w'):ZN w' a n L Z:=fun i hi=>by
 obtain⟨b,off,ai,ci,e,hc,hr⟩:=h i hi;exact⟨b,off,ai,ci,e,(hb.cell (p:=Q b (off+i) I) (A7 hc)).trans hc,hr.below hb⟩
theorem jM0 {w:Ad} {B T n c:Nat} {a:OA} {z:Nat->Int} (h:w.ownsRow B T 1 (V a n c) n ((zI z n).map (Ao Ar))):jH w a n (zI z n):=by
 rcases jX h with ⟨rfl,rfl,rfl⟩|⟨g,a0,rfl,_⟩
 .exact⟨jHb _ _,fun i hi=>by omega⟩
 .exact ownsRow.ints h
theorem vQ.at {T TT:Nat} {w:Ad} {B E:Nat} {a:OA} {n cap:Nat} {A:Nat->OA} {L C:Nat->Nat} {Z:Nat->Nat->Int} (h:vQ Ar T TT w B E a n cap A L C Z):ZN w a n L Z:=by
 intro i hi;obtain⟨G,rfl⟩:=h.addr (by omega);exact⟨G,0,A i,C i,rfl,by rw[Bt];exact h.hdr hi,jM0 (h.row i hi)⟩
end
section
open Go.Proofs.YtcaejlalnjnifaaGreat.Gp (m m_lt m_comm zero_m m_nat xor_can xor_eq xor_lt)
def txt (f:Nat->Nat) (l:Nat):BA:=strOfNums (eI f l)
theorem zO (f:Nat->Nat) (l:Nat):(txt f l).size=l:=by unfold txt;rw[Fu,vA]
theorem jFp {f:Nat->Nat} {l k:Nat} (hk:k<l) (hf:f k<256):tat (txt f l) k=f k:=by
 unfold txt;rw[jFo,JU _ _ _ hk,Cy,Dx hf]
theorem jEe {f g:Nat->Nat} {l:Nat} (h:∀ i,i<l->f i=g i):txt f l=txt g l:=by unfold txt;rw[jF4 h]
theorem jSl (s:BA):txt (tat s) s.size=s:=by
 refine jQr (zO _ _) fun k=>?_
 by_cases hk:k<s.size
 .exact jFp hk (JB s k)
 .rw[zN s k hk,zN _ k (by rw[zO];exact hk)]
theorem jO8 {s:BA} {f:Nat->Nat} {l:Nat} (hs:s.size=l) (h:∀ k,k<l->tat s k=f k):s=txt f l:=by
 rw[<-jSl s,hs];exact jEe h
def XE (s k:Nat):Nat:=(s+2+k-1) / k
theorem jEn {s k:Nat} (hk:1<=k):s+2<=k*XE s k:=by
 unfold XE;have:=Nat.div_add_mod (s+2+k-1) k
 have h2:=E5 (s+2+k-1) (show k>0 by omega);omega
theorem jF2 {s k:Nat} (hk:1<=k):1<=XE s k:=by
 have:=jEn (s:=s) hk
 rcases Fy (XE s k) with h|h
 .rw[h] at this;omega
 .exact h
theorem ZP {s k:Nat} (hk:1<=k):XE s k<=s+2:=by
 unfold XE;rw[Nat.div_le_iff_le_mul_add_pred (by omega)];have:s+2<=k*(s+2):=Nat.le_mul_of_pos_left _ (by omega)
 omega
def frm (s:BA) (q:Nat):Nat:=if q=0 then s.size / 256 else if q=1 then s.size % 256 else tat s (q-2)
theorem jN9 {s:BA} (hs:s.size<65536) (q:Nat):frm s q<256:=by
 unfold frm;split
 .omega
 .split
  .omega
  .exact JB _ _
theorem jPq {s:BA} {q:Nat} (h:s.size+2<=q):frm s q=0:=by
 unfold frm;rw[A5 (by omega),A5 (by omega),zN _ _ (by omega)]
def pcs (W:Nat->Nat) (l i p:Nat):Nat:=W (i*l+p)
def bod (k:Nat) (F T:Nat->Nat->Nat) (l i:Nat):BA:=txt (Gm.mp k F T i) l
theorem jI1 {k:Nat} {F F' T T':Nat->Nat->Nat} {l i:Nat} (h1:∀ t,t<k->F i t=F' i t) (h2:∀ t p,t<k->p<l->T t p=T' t p):bod k F T l i=bod k F' T' l i:=
 jEe (fun p hp=>Gm.mp_congr h1 (fun t ht=>h2 t p ht hp))
def enc (s:BA) (k i p:Nat):Nat:=pcs (frm s) (XE s.size k) i p
def jCe (W:Nat->Nat) (N k:Nat):Prop:=2<=N/\W 0*256+W 1<=2000/\N=k*XE (W 0*256+W 1) k/\∀ q,W 0*256+W 1+2<=q->q<N->W q=0
def jO7 (W:Nat->Nat):BA:=txt (fun q=>W (q+2)) (W 0*256+W 1)
end
section
theorem Tryz.infoInts:(Tryz.prog.info? 40).map (fun i=>(i.zero,i.size,i.bytes))=M (M (V I 0 0),1,24):=by kernel_rfl
abbrev zQ (w:Ad) (B E:Nat) (a:OA) (n cap:Nat) (A:Nat->OA) (L C:Nat->Nat) (Z:Nat->Nat->Int):Prop:=vQ Ar 3 40 w B E a n cap A L C Z
theorem jTe:(3:Nat)≠40:=by decide
def jAp (n:Int):Bool:=decide (1<=n/\n<=16)
theorem jNj (n:Nat):jAp (n:Int)=decide (1<=n/\n<=16):=by
 unfold jAp;congr 1
 simp only[eq_iff_iff];omega
theorem xD (n:Int) (w:Ad):CS 233 #[n] w (jAp n):=by
 go_enter func233,ntmps233
 go_wp2
 .go_ret
  exact⟨jT (by simp[jAp, *]),rfl⟩
 .go_ret
  exact⟨jT (by simp[jAp];omega),rfl⟩
theorem jIn (i j:Nat) (w:Ad):CS 236 #[(i:Int),(j:Int)] w (Ao .u8 ((Gm.dl i j:Nat):Int)):=by
 by_cases h:i=j
 .subst h;rw[Gm.dl_self];go_enter func236,ntmps236
  go_wp2
  go_ret
  exact⟨rfl,rfl⟩
 .have h':((i:Int)==(j:Int))=Av:=by simp;omega
  rw[Gm.dl_ne h];go_enter func236,ntmps236
  go_wp2
  go_ret
  exact⟨rfl,rfl⟩
def jFt (g:Nat) (lb:Array Aj) (r c:Nat) (F:Nat->Nat->Nat) (w:Ad):Prop:=
 ∀ (W:Ad) (i j:Nat),Ab w w W->i<r->j<c->CB g (#[Ao Ar (i:Int),Ao Ar (j:Int)]++lb) W (Ao .u8 ((F i j:Nat):Int))
theorem jHk (g:Nat) (lb:Array Aj) (eg:∀ args w,(callFunc g args).run prog w=.ok (.enter g args) w) (r c:Nat) (F:Nat->Nat->Nat) (w:Ad) (hp:jFt g lb r c F w) (hF:∀ i j,F i j<256) (hr:r<=1048576) (hc:c<=1048576):Ak prog 234 #[(r:Int),(c:Int),.func (.func g) #[] lb] w fun e w'=>e=Ae (V (Q w.1.size 0 I) r r)/\(∃ A,zQ w' w.1.size w'.1.size (Q w.1.size 0 I) r r A (fun _=>c) (fun _=>c) (fun i j=>((F i j:Nat):Int)))/\Ab w.1.size w w':=by
 obtain⟨i0,hi,i1,j1,k1⟩:=Cg Tryz.infoInts;obtain⟨j0,hj,r1,s1,t1⟩:=Cg Tryz.infoInt;go_enter func234,ntmps234
 go_wp2_with (at_make;refine Cv _ rfl _ _ 200 rfl w.1.size 40 i0 (V I 0 0) 1 underlying200 hi i1 j1 Ar Ar _ _ r rfl rfl rfl rfl (by rw[k1];omega) (by unfold Au;omega) (Ay _) ?_;intro w1 b0 n0)
 have a1:Ab w.1.size w w1:=(Az _ _).grown n0 (Ay _) (by simp);have s0:=(A0 b0 _ rfl).2;have f1:zQ w1 w.1.size w1.1.size (Q w.1.size 0 I) r r (fun _=>I) (fun i=>if i<0 then c else 0) (fun i=>if i<0 then c else 0) (fun i j=>((F i j:Nat):Int)):=
  (vQ.made (by simpa [Value.cells,Do] using b0) s0 _).congr (fun i _=>⟨rfl,by simp,by simp,fun j hj=>rfl⟩)
 have KO:H _:=f1;have KB:H (Ab w.1.size w w1):=a1;clear b0 n0 s0 f1 a1 hi i1 j1 k1;go_loopw [14] (fun i wr=>∃ k A,k<=r/\i=Ao Ar ((k:Nat):Int)/\zQ wr w.1.size wr.1.size (Q w.1.size 0 I) r r A (fun i=>if i<k then c else 0) (fun i=>if i<k then c else 0) (fun i j=>((F i j:Nat):Int))/\(∀ i,k<=i->A i=I)/\Ab w.1.size w wr) (fun i _=>r-(intOf i).toNat)
 case atStart=>exact⟨0,_,Bi _,rfl,KO.out,fun _ _=>rfl,KB.out⟩
 case round=>
  obtain⟨k,A,hk,rfl,b0,t0,a0⟩:=hrel;clear KO KB;by_cases hlt:k<r
  .have y1:(k:Int)<(r:Int):=by omega
   have KA:H _:=t0;have KM:H (zQ wr w.1.size wr.1.size (Q w.1.size 0 I) r r A (fun i=>if i<k then c else 0) (fun i=>if i<k then c else 0) (fun i j=>((F i j:Nat):Int))):=b0;have KB:H (Ab w.1.size w wr):=a0;have p1:=a0.size;have k0:=b0.olt.2;have e0:=b0.hdr hlt;have r0:=b0.ofree k;simp only[Fo,Dj] at e0;clear t0 b0 a0;go_wp2_with (at_make;refine Cv _ rfl _ _ 40 rfl wr.1.size 3 j0 () 1 Ec hj r1 s1 Ar Ar _ _ c rfl rfl rfl rfl (by rw[t1];omega) (by unfold Au;omega) (Ay _) ?_;intro w2 o0 f0;have g0:Ab wr.1.size wr w2:=(Az _ _).grown f0 (Ay _) (by simp);have x0:=(g0.cell (p:=Q w.1.size k I) k0).trans e0;have c1:=(Cx (a:=(Q w.1.size k I)) (g0.block _ k0)).trans r0)
   have w0:w2.ownsRow wr.1.size 3 1 (V (Q wr.1.size 0 I) c c) c ((zI (fun _=>0) c).map (Ao Ar)):=by
    rw[jN3 c 0 (fun _ _=>rfl)];simpa [Value.cells,Do] using o0
   have m0:=((KM.out.below g0).wide g0.size).setRow jTe hlt (jY w0 p1) (A0 w0 _ rfl).2 (fun j hj _ x ex=>by have:=KM.out.rE j hj x ex;exact Nat.ne_of_lt this);obtain⟨A',p0⟩:=nmH (fun i=>if i=k then M (Q wr.1.size 0 I) else A i);obtain⟨g1,o1⟩:∃ g1,wr.1.size=g1:=⟨_,rfl⟩;rw[o1] at m0 p0 |-;obtain⟨w3,y0⟩:∃ w3,w2.setCell (Q w.1.size k I) (V (Q g1 0 I) c c)=w3:=⟨_,rfl⟩;rw[y0] at m0 |-;have c0:A' k=M (Q g1 0 I):=by rw[p0.out];simp
   have KS:H (zQ w3 w.1.size w3.1.size (Q w.1.size 0 I) r r A' (fun i=>if i<k+1 then c else 0) (fun i=>if i<k+1 then c else 0) (fun i j=>if i=k/\0<=j then 0 else ((F i j:Nat):Int))):=
    (m0.1.wide m0.2.size).congr (fun i _=>by
     rw[p0.out];by_cases e:i=k
     .subst e;simp
     .by_cases e2:i<k
      .simp[e,e2,show i<k+1 by omega]
      .simp[e,e2,show ¬ i<k+1 by omega])
   have KB2:H (Ab w.1.size w w3):=by
    rw[<-y0];exact(jA KB.out g0).setCell (Ay _) _
   clear m0 y0 w0 o0 f0 g0 x0 c1 e0 r0 KM KB k0;go_loopw [27] (fun j wr=>∃ q:Nat,q<=c/\j=Ao Ar (q:Int)/\zQ wr w.1.size wr.1.size (Q w.1.size 0 I) r r A' (fun i=>if i<k+1 then c else 0) (fun i=>if i<k+1 then c else 0) (fun i j=>if i=k/\q<=j then 0 else ((F i j:Nat):Int))/\Ab w.1.size w wr) (fun j _=>c-(intOf j).toNat)
   case atStart=>exact⟨0,Bi _,rfl,KS.out,KB2.out⟩
   case round=>
    obtain⟨q,hq,rfl,hM,a0⟩:=hrel;clear KS KB2;by_cases hqc:q<c
    .have z1:(q:Int)<(c:Int):=by omega
     have v0:=hM.hdr hlt;rw[c0] at v0;simp only[Gi,C0] at v0;have b1:=hM.elt (j:=q) hlt c0 (by simp only[Gi,C0];exact hqc);simp only[Ay,and_self,C0] at b1;have d0:=hp wr.drew k q ⟨a0.os,a0.tape,a0.output,a0.size,a0.block⟩ hlt hqc;have z0:=hF k q;have m1:=hM.olt.2;have e1:=(hM.glt hlt c0).2;have KM:H (zQ wr w.1.size wr.1.size (Q w.1.size 0 I) r r A' (fun i=>if i<k+1 then c else 0) (fun i=>if i<k+1 then c else 0) (fun i j=>if i=k/\q<=j then 0 else ((F i j:Nat):Int))):=hM;have KP:H (jFt g lb r c F w):=hp;have KF:H (∀ i j,F i j<256):=hF;have KB:H (Ab w.1.size w wr):=a0;have n1:=hM.free hlt c0 q;clear hM hp hF a0;generalize hX:F k q=X at d0 z0;have KX:H (F k q=X):=hX;clear hX;go_wp2_with fail
     go_region_with ((go_at_fn g;refine Ax d0 ?_;rintro e w5 ⟨rfl,q0⟩;have h0:=jC q0;clear q0;have x1:=(h0.cell (p:=Q w.1.size k I) m1).trans v0;have u1:=(h0.cell (p:=Q g1 q I) e1).trans b1;have v1:=(Cx (a:=(Q g1 q I)) (h0.block _ e1)).trans n1))
     all_goals
      have q1:IntKind.i64.wrap (X:Int)=(X:Int):=by rw[A8];omega
      rw[q1];have u0:=((KM.out.below h0).wide h0.size).setElt jTe (j:=q) hlt c0 (by simp only[Gi,C0];exact hqc) (X:Int);have HS:H (zQ (w5.setCell (Q g1 q I) (X:Int)) w.1.size (w5.setCell (Q g1 q I) (X:Int)).1.size (Q w.1.size 0 I) r r A' (fun i=>if i<k+1 then c else 0) (fun i=>if i<k+1 then c else 0) (fun i j=>if i=k/\q+1<=j then 0 else ((F i j:Nat):Int))):=
       (u0.1.wide u0.2.size).congr (fun i _=>⟨rfl,rfl,rfl,fun j _=>by
        by_cases e:i=k
        .subst e;by_cases e2:j=q
         .subst e2;rw[A6 ⟨rfl,rfl⟩,A5 (by omega),KX.out]
         .rw[A5 (by omega)];by_cases e3:q<=j
          .rw[A6 ⟨rfl,e3⟩,A6 ⟨rfl,by omega⟩]
          .rw[A5 (by omega),A5 (by omega)]
        .rw[A5 (by omega),A5 (by omega),A5 (by omega)]⟩)
      have HB:H (Ab w.1.size w (w5.setCell (Q g1 q I) (X:Int))):=(jA KB.out h0).setCell (show w.1.size<=g1 by omega) _;clear u0 d0;go_wp2
      go_roundw
      case rel=>exact⟨q+1,by omega,by go_num,HS.out,HB.out⟩
      case measure=>simp[intOf] <;> omega
    .obtain rfl:q=c:=by omega
     have KM:H (zQ wr w.1.size wr.1.size (Q w.1.size 0 I) r r A' (fun i=>if i<k+1 then q else 0) (fun i=>if i<k+1 then q else 0) (fun i j=>if i=k/\q<=j then 0 else ((F i j:Nat):Int))):=hM;have KP:H (jFt g lb r q F w):=hp;clear hM hp;go_wp2
     go_roundw
     case rel=>exact⟨k+1,A',by omega,by go_num,KM.out.congr (fun i hi=>⟨rfl,rfl,rfl,fun j hj=>by
      rw[A5];intro h;by_cases e:i<k+1
      .rw[A6 e] at hj;omega
      .omega⟩),fun i hi=>by rw[p0.out];simp[show i≠k by omega,KA.out i (by omega)],a0⟩
     case measure=>simp[intOf] <;> omega
  .obtain rfl:k=r:=by omega
   have KM:H _:=b0;clear b0 t0 hp;go_wp2
   go_ret
   exact⟨rfl,⟨A,KM.out.congr (fun i hi=>⟨rfl,A6 hi,A6 hi,fun j _=>rfl⟩)⟩,a0⟩
def jFv (w w':Ad) (v:Aj) (r c:Nat) (F:Nat->Nat->Nat):Prop:=∃ a cap A C,v=V a r cap/\zQ w' w w'.1.size a r cap A (fun _=>c) C (fun i j=>((F i j:Nat):Int))
theorem jFv.none (w w':Ad) (c:Nat) (F:Nat->Nat->Nat):jFv w w' (V I 0 0) 0 c F:=⟨_,_,fun _=>.none,fun _=>0,rfl,vQ.nil _ _ _ _ _ _ _ _ _ _⟩
theorem jFv.mk {w w':Ad} {a:OA} {r cap c:Nat} {A:Nat->OA} {C:Nat->Nat} {F:Nat->Nat->Nat} {B:Nat} (h:zQ w' B w' a r cap A (fun _=>c) C (fun i j=>((F i j:Nat):Int))) (hB:w.1.size<=B):jFv w w' (V a r cap) r c F:=
 ⟨a,cap,A,C,rfl,⟨jY h.out hB,h.oE,fun i hi=>jY (h.row i hi) hB,h.rE,h.apart⟩⟩
theorem jFl (kb k i j:Nat) (w:Ad) (hk:w.cell? kb=M (Ao Ar (k:Int))) (hi:i<256) (hj:j<256):CB 235 #[(i:Int),(j:Int),Af kb] w (Ao .u8 ((Gm.sprd k i j:Nat):Int)):=by
 by_cases h:i<k
 .have h':(i:Int)<(k:Int):=by omega
  have HS:H (Gm.sprd k i j=Gm.dl i j):=by show _=_;unfold Gm.sprd;rw[A6 h]
  go_enter func235,ntmps235
  go_wp2_with (go_at_call 236;refine(jIn i j _).mono ?_;rintro e w' ⟨rfl,hw⟩;obtain rfl:=hw.symm)
  go_ret
  exact⟨by rw[HS.out] <;> rfl,Az _ _⟩
 .have h':¬ (i:Int)<(k:Int):=by omega
  have HS:H (Gm.sprd k i j=Gf.inv (i ^^^ j)):=by show _=_;unfold Gm.sprd;rw[A5 h]
  have hx:=Gf.xor_lt hi hj;go_enter func235,ntmps235
  go_wp2_with (first|(go_at_call 237;refine(jGm i j _ hi hj).mono ?_;rintro e w' ⟨rfl,hw⟩;obtain rfl:=hw.symm)|(go_at_call 238;refine(jEu (i ^^^ j) _ hx).mono ?_;rintro e w2 ⟨rfl,hb2⟩))
  go_ret
  exact⟨by rw[HS.out] <;> rfl,hb2⟩
theorem jFm:∀ args w,(callFunc 235 args).run prog w=.ok (.enter 235 args) w:=enters_of func235 (by kernel_rfl) rfl
theorem jIl (kb k r c:Nat) (w:Ad) (hk:w.cell? kb=M (Ao Ar (k:Int))) (hr:r<=256) (hc:c<=256):jFt 235 #[Af kb] r c (Gm.sprd k) w:=fun W i j hb hi hj=>
 jFl kb k i j W ((hb.cell (p:=kb) (A7 hk)).trans hk) (by omega) (by omega)
theorem jSw (w:Ad) (v:Aj) (t:TypeId):(w.alloc (J #[v] t)).cell? (Q w 0 I)=M v:=cell_of_one (Cq w _)
def qV (k n:Int):Bool:=jAp n&&decide (1<=k/\k<=n)
def jBe (k n:Int):Nat:=if qV k n=Aw then n.toNat else 0
theorem jIm (k n:Int) (w:Ad):Ak prog 220 #[k,n] w fun e w'=>∃ v,e=Ae (Ah #[v,(qV k n)])/\jFv w w' v (jBe k n) k.toNat (Gm.sprd k.toNat)/\Ab w w w':=by
 have e0:=jSw w k 3;have b0:Ab w w (w.alloc (J #[k] 3)):=(Az _ _).alloc (Ay _) _;have i0:(w.alloc (J #[k] 3)).1.size=w.1.size+1:=by simp
 by_cases h1:jAp n=Aw
 .by_cases h2:1<=k
  .by_cases h3:k<=n
   .have hr:1<=n/\n<=16:=by simpa [jAp] using h1
    have a0:qV k n=Aw:=by unfold qV;rw[h1];simp;omega
    obtain⟨N,rfl⟩:∃ N:Nat,n=(N:Int):=⟨n.toNat,by omega⟩;obtain⟨K,rfl⟩:∃ K:Nat,k=(K:Int):=⟨k.toNat,by omega⟩;have hN:jBe (K:Int) (N:Int)=N:=by unfold jBe;rw[A6 a0];simp
    rw[hN,a0,Cy];have KF:H _:=jHk 235 #[Af (Q w 0 I)] jFm N K (Gm.sprd K) _ (jIl w K N K _ e0 (by omega) (by omega)) (Gm.sprd_byt K) (by omega) (by omega);have d0:¬ (K:Int)<1:=by omega
    have g0:¬ (K:Int)>(N:Int):=by omega
    obtain⟨w1,c0⟩:∃ w1,w.alloc (J #[(K:Int)] 3)=w1:=⟨_,rfl⟩;have KW:=hd c0;rw[c0] at KF b0 e0;clear c0 hN a0 i0;go_enter func220,ntmps220
    go_wp2_with fail
    rw[KW.out];refine(xD _ _).mono ?_;rintro e w' ⟨rfl,hw⟩;obtain rfl:=hw.symm;go_wp2_with fail
    refine Ax KF.out ?_;rintro e w2 ⟨rfl,⟨A,hM⟩,h0⟩;have KM:H _:=hM;clear hM;go_wp2
    go_ret2
    exact⟨_,rfl,jFv.mk KM b0.size,jA b0 h0⟩
   .have a0:qV k n=Av:=by unfold qV;simp[h3]
    have hN:jBe k n=0:=by unfold jBe;rw[A5 (by rw[a0];simp)]
    rw[hN,a0];have d0:¬ k<1:=by omega
    have g0:k>n:=by omega
    clear a0 hN;go_enter func220,ntmps220
    go_wp2_with fail
    refine(xD _ _).mono ?_;rintro e w' ⟨rfl,hw⟩;obtain rfl:=hw.symm;go_wp2
    go_ret2
    exact⟨_,rfl,jFv.none _ _ _ _,b0⟩
  .have a0:qV k n=Av:=by unfold qV;simp[h2]
   have hN:jBe k n=0:=by unfold jBe;rw[A5 (by rw[a0];simp)]
   rw[hN,a0];have d0:k<1:=by omega
   clear a0 hN;go_enter func220,ntmps220
   go_wp2_with fail
   refine(xD _ _).mono ?_;rintro e w' ⟨rfl,hw⟩;obtain rfl:=hw.symm;go_wp2
   go_ret2
   exact⟨_,rfl,jFv.none _ _ _ _,b0⟩
 .have f0:jAp n=Av:=by simpa using h1
  have a0:qV k n=Av:=by unfold qV;simp[f0]
  have hN:jBe k n=0:=by unfold jBe;rw[A5 (by rw[a0];simp)]
  rw[hN,a0];clear a0 hN;go_enter func220,ntmps220
  go_wp2_with fail
  refine(xD _ _).mono ?_;rintro e w' ⟨rfl,hw⟩;obtain rfl:=hw.symm;go_wp2
  go_ret2
  exact⟨_,rfl,jFv.none _ _ _ _,b0⟩
theorem zQ.pushed {wr w2:Ad} {B b0 G k cap g2 e0 gr W c0:Nat} {A:Nat->OA} {C:Nat->Nat} {F:Nat->Nat->Nat} (o:Obj) (hM:zQ wr B b0 G k cap A (fun _=>W) C (fun i j=>((F i j:Nat):Int))) (hb:B<=b0) (hr:jCo wr b0 gr W c0 (F k)) (a0:(wr.alloc o).grownBy w2 (M G)) (g0:w2.ownsRow B 40 1 (V g2 (k+1) e0) (k+1) (hds A (fun _=>W) C k++[V gr W c0])):∃ A' C',zQ w2 B w2 g2 (k+1) e0 A' (fun _=>W) C' (fun i j=>((F i j:Nat):Int)):=by
 have d0:Ab wr wr (wr.alloc o):=(Az _ _).alloc (Ay _) _;have i0:=hM.below d0;have j0:(wr.alloc o).ownsRow B 3 1 (V gr W c0) W ((zI (fun j=>((F k j:Nat):Int)) W).map (Ao Ar)):=jY (jE hr d0) hb;have f0:=hr.lt.1;refine⟨_,_,(vQ.push jTe i0 a0 g0 (Ay _) ?_ j0 (fun j hj y u ey eu=>?_)).congr (fun i _=>⟨rfl,by split <;> rfl,rfl,fun j _=>by by_cases e:i=k;subst e;simp;simp[e]⟩)⟩
 .by_cases h0:G<b0
  .exact By (G9 (Nat.lt_of_le_of_lt f0 hr.lt.2)) (By d0.size a0.size)
  .exact By (G9 (Nat.lt_of_le_of_lt f0 hr.lt.2)) (By d0.size a0.size)
 .cases eu;have:=hM.rE j hj y ey
  exact Nat.ne_of_lt (Bu this f0)
theorem zQ.rowed {wr w2:Ad} {B b0 gr:Nat} {a:OA} {k cap W:Nat} {A:Nat->OA} {C:Nat->Nat} {F:Nat->Nat->Nat} (o:Obj) (hM:zQ wr B b0 a k cap A (fun _=>W) C (fun i j=>((F i j:Nat):Int))) (c0:b0<=gr) (a0:(wr.alloc o).grownBy w2 (M gr)):zQ w2 B b0 a k cap A (fun _=>W) C (fun i j=>((F i j:Nat):Int)):=(hM.below ((Az _ _).alloc (Ay _) o)).keptE a0 c0
theorem litM (w:Ad) (A:Nat->OA) (L C:Nat->Nat) (Z:Nat->Nat->Int):zQ (w.alloc (J #[] 40)) w (w.alloc (J #[] 40)).1.size (Q w 0 I) 0 0 A L C Z:=
 vQ.zero _ _ _ _ _ _ _ _ _ _ (Cc w #[] 0 (Ay _) (by unfold Au;omega) rfl) (by simp)
theorem jKx (w w1:Ad) (h:w.1.size<=w1.1.size) (c:Nat) (F:Nat->Nat->Nat):jFv w (w1.alloc (J #[] 40)) (V (Q w1 0 I) 0 0) 0 c F:=
 jFv.mk (litM w1 (fun _=>I) (fun _=>c) (fun _=>0) _) h
def jSv (s k:Int):Bool:=decide (0<=s/\s<=2000)&&jAp k
def blI (s k:Int):Int:=if jSv s k=Aw then ((XE s.toNat k.toNat:Nat):Int) else -1
theorem jBk {s k:Nat} (hs:s<=2000) (hk:1<=k) (a0:k<=16):blI (s:Int) (k:Int)=((XE s k:Nat):Int):=by
 unfold blI;rw[A6 (by unfold jSv jAp;simp;omega)];simp
theorem jI0 {s k:Int} (h:¬ (0<=s/\s<=2000/\1<=k/\k<=16)):blI s k = -1:=by
 unfold blI;rw[A5];unfold jSv jAp;simp
 omega
theorem jGq {s k:Nat} (_hk:1<=k):Int.tdiv ((s:Int)+2+(k:Int)-1) (k:Int)=((XE s k:Nat):Int):=by
 unfold XE;rw[show (s:Int)+2+(k:Int)-1=((s+2+k-1:Nat):Int) by omega,<-Int.ofNat_tdiv]
theorem JS (s k:Int) (w:Ad):CS 221 #[s,k] w (blI s k):=by
 by_cases h:0<=s/\s<=2000/\1<=k/\k<=16
 .obtain⟨h1,h2,h3,h4⟩:=h;obtain⟨S,rfl⟩:=Dk h1;obtain⟨K,rfl⟩:=Dk (show 0<=k by omega);have a0:jAp (K:Int)=Aw:=by rw[jNj];simp;omega
  have HB:H (blI (S:Int) (K:Int)=((XE S K:Nat):Int)):=jBk (by omega) (by omega) (by omega);have hq:=jGq (s:=S) (k:=K) (by omega);have d0:¬ (S:Int)<0:=by omega
  have e0:¬ (S:Int)>2000:=by omega
  have h0:IntKind.i64.wrap (2+(S:Int))=(S:Int)+2:=by rw[A8];omega
  have i0:IntKind.i64.wrap ((S:Int)+2+(K:Int))=(S:Int)+2+(K:Int):=by rw[A8];omega
  have j0:IntKind.i64.wrap ((S:Int)+2+(K:Int)-1)=(S:Int)+2+(K:Int)-1:=by rw[A8];omega
  have f0:=ZP (s:=S) (k:=K) (by omega);have b0:IntKind.i64.wrap ((XE S K:Nat):Int)=((XE S K:Nat):Int):=by rw[A8];omega
  have g0:((K:Int)==0)=Av:=by simp;omega
  have c0:¬ ((K:Int)=0):=by omega
  generalize XE S K=b at hq b0 HB;go_enter func221,ntmps221
  go_wp2_with (go_at_call 233;refine(xD _ _).mono ?_;rintro e w' ⟨rfl,hw⟩;obtain rfl:=hw.symm)
  go_ret
  exact⟨jS (by rw[HB.out] <;> simp[*]),rfl⟩
 .have HB:H (blI s k = -1):=jI0 h;by_cases h1:s<0
  .go_enter func221,ntmps221
   go_wp2
   go_ret
   exact⟨jS HB.symm,rfl⟩
  .by_cases h2:s>2000
   .go_enter func221,ntmps221
    go_wp2
    go_ret
    exact⟨jS HB.symm,rfl⟩
   .have a0:jAp k=Av:=by unfold jAp;simp;omega
    go_enter func221,ntmps221
    go_wp2_with (go_at_call 233;refine(xD _ _).mono ?_;rintro e w' ⟨rfl,hw⟩;obtain rfl:=hw.symm)
    go_ret
    exact⟨jS HB.symm,rfl⟩
theorem jDu (s k:Int) (w:Ad):CS 161 #[s,k] w (blI s k):=by
 by_cases h:0<=s/\s<=2000/\1<=k/\k<=16
 .obtain⟨h1,h2,h3,h4⟩:=h;obtain⟨S,rfl⟩:=Dk h1;obtain⟨K,rfl⟩:=Dk (show 0<=k by omega);have a0:inB (S:Int) 0 2000=Aw:=by unfold inB;simp;omega
  have b0:inB (K:Int) 1 16=Aw:=by unfold inB;simp;omega
  have HB:H (blI (S:Int) (K:Int)=((XE S K:Nat):Int)):=jBk (by omega) (by omega) (by omega);have hq:=jGq (s:=S) (k:=K) (by omega);have g0:IntKind.i64.wrap ((S:Int)+2)=(S:Int)+2:=by rw[A8];omega
  have h0:IntKind.i64.wrap ((S:Int)+2+(K:Int))=(S:Int)+2+(K:Int):=by rw[A8];omega
  have i0:IntKind.i64.wrap ((S:Int)+2+(K:Int)-1)=(S:Int)+2+(K:Int)-1:=by rw[A8];omega
  have e0:=ZP (s:=S) (k:=K) (by omega);have c0:IntKind.i64.wrap ((XE S K:Nat):Int)=((XE S K:Nat):Int):=by rw[A8];omega
  have f0:((K:Int)==0)=Av:=by simp;omega
  have d0:¬ ((K:Int)=0):=by omega
  generalize XE S K=b at hq c0 HB;go_enter func161,ntmps161
  go_wp2_with (go_at_call 43;refine(jN _ _ _ _).mono ?_;rintro e w' ⟨rfl,hw⟩;obtain rfl:=hw.symm)
  go_ret
  exact⟨jS (by rw[HB.out] <;> simp[*]),rfl⟩
 .have HB:H (blI s k = -1):=jI0 h;by_cases h1:0<=s/\s<=2000
  have a0:inB s 0 2000=Aw:=by unfold inB;simp;omega
  have b0:inB k 1 16=Av:=by unfold inB;simp;omega
  rotate_left;have a0:inB s 0 2000=Av:=by unfold inB;simp;omega
  rotate_left;all_goals
   go_enter func161,ntmps161
   go_wp2_with (go_at_call 43;refine(jN _ _ _ _).mono ?_;rintro e w' ⟨rfl,hw⟩;obtain rfl:=hw.symm)
   go_ret
   exact⟨jS HB.symm,rfl⟩
theorem jIe (n:Nat) (w:Ad) (hn:n<=1000):Ak prog 185 #[(n:Int)] w fun e w'=>∃ G cap A C,e=Ae (V (Q G 0 I) n cap)/\zQ w' w w'.1.size (Q G 0 I) n cap A (fun _=>n) C (fun i j=>((Gm.dl i j:Nat):Int))/\Ab w w w':=by
 obtain⟨i0,hi,p0,q0,r0⟩:=Cg Tryz.infoInt;obtain⟨i1,hj,u0,v0,w0⟩:=Cg Tryz.infoInts;have H0:H (zQ (w.alloc (J #[] 40)) w (w.alloc (J #[] 40)).1.size (Q w 0 I) 0 0 (fun _=>I) (fun _=>n) (fun _=>0) (fun i j=>((Gm.dl i j:Nat):Int))):=litM w _ _ _ _;go_enter func185,ntmps185
 go_wp2
 go_loopw [3,4] (fun v i wr=>∃ k G cap A C,k<=n/\i=Ao Ar ((k:Nat):Int)/\v=V (Q G 0 I) k cap/\zQ wr w wr.1.size (Q G 0 I) k cap A (fun _=>n) C (fun i j=>((Gm.dl i j:Nat):Int))/\Ab w w wr) (fun _ i _=>n-(intOf i).toNat)
 case atStart=>exact⟨0,_,_,_,_,Bi _,rfl,rfl,H0.out,(Az _ _).alloc (Ay _) _⟩
 case round=>
  obtain⟨k,G,cap,A,C,hk,rfl,rfl,hM,d0⟩:=hrel;clear H0;by_cases hlt:k<n
  .have z0:(k:Int)<(n:Int):=by omega
   have j0:=d0.size;have KR:H (jCo (wr.alloc (J #[] 3)) wr.1.size wr.1.size 0 0 (Gm.dl k)):=lit0 wr (Gm.dl k);have KM:H (zQ (wr.alloc (J #[] 3)) w wr.1.size (Q G 0 I) k cap A (fun _=>n) C (fun i j=>((Gm.dl i j:Nat):Int))):=hM.below ((Az _ _).alloc (Ay _) _);have KB:H (Ab w w (wr.alloc (J #[] 3))):=d0.alloc j0 _;have s0:=hM.olt.1;clear hM d0;obtain⟨b0,n0⟩:∃ b0,wr.1.size=b0:=⟨_,rfl⟩;rw[n0] at KR KM j0;go_wp2
   clear n0;go_loopw [5,6] (fun v i wr=>∃ q gr f0,q<=n/\i=Ao Ar ((q:Nat):Int)/\v=V (Q gr 0 I) q f0/\jCo wr b0 gr q f0 (Gm.dl k)/\zQ wr w b0 (Q G 0 I) k cap A (fun _=>n) C (fun i j=>((Gm.dl i j:Nat):Int))/\Ab w w wr) (fun _ i _=>n-(intOf i).toNat)
   case atStart=>exact⟨0,_,_,Bi _,rfl,rfl,KR.out,KM.out,KB.out⟩
   case round=>
    obtain⟨q,gr,f0,hq,rfl,rfl,e0,hM,d0⟩:=hrel;clear KR KM KB;have o0:=e0.lt.1;have k0:=d0.size;have x0:=e0.lt.2;by_cases hqn:q<n
    .have t0:(q:Int)<(n:Int):=by omega
     obtain⟨x,hx⟩:∃ x,Gm.dl k q=x:=⟨_,rfl⟩;by_cases e:k=q
     .subst e;have m0:Gm.dl k k=1:=Gm.dl_self k;clear hx;go_wp2_with (at_builtin;refine De _ rfl _ _ 40 rfl b0 3 i0 () 1 8 Ec hi p0 q0 r0 rfl (by decide) (V (M ⟨gr,0,I⟩) k f0) k _ rfl (Cb e0 _) ⟨wr.1.size,0,I⟩ 1 1 [(1:Int)] rfl rfl (Cf (cs:=#[Ao Ar 1]) (t:=3) (fr:=(0,0)) (Cq wr _)) (by simp[Aq]) (by omega) (by unfold Au;omega) (by omega) (by simp;omega) (wr.1.size+1) (by simp) ?_;intro g2 cap3 w2 c0 a0 h0 g0)
      have HO:H (jCo w2 b0 g2 (k+1) cap3 (Gm.dl k)):=jCo.snoc (by rw[m0];exact c0);have HM:H (zQ w2 w b0 (Q G 0 I) k cap A (fun _=>n) C (fun i j=>((Gm.dl i j:Nat):Int))):=zQ.rowed _ hM o0 a0;have hb':Ab w w w2:=(d0.alloc k0 _).grown (show World.grownBy _ w2 (M gr) from a0) (by simp;omega) (fun j hj=>by cases hj;omega);clear c0 a0 h0 g0 e0 hM;go_roundw
      case rel=>exact⟨k+1,g2,cap3,by omega,by go_num,rfl,HO.out,HM.out,hb'⟩
      case measure=>simp[intOf] <;> omega
     .have m0:Gm.dl k q=0:=Gm.dl_ne e;have y0:((k:Int)==(q:Int))=Av:=by simp;omega
      clear hx;go_wp2_with (at_builtin;refine De _ rfl _ _ 40 rfl b0 3 i0 () 1 8 Ec hi p0 q0 r0 rfl (by decide) (V (M ⟨gr,0,I⟩) q f0) q _ rfl (Cb e0 _) ⟨wr.1.size,0,I⟩ 1 1 [()] rfl rfl (Cf (cs:=#[Ao Ar 0]) (t:=3) (fr:=(0,0)) (Cq wr _)) (by simp[Aq]) (by omega) (by unfold Au;omega) (by omega) (by simp;omega) (wr.1.size+1) (by simp) ?_;intro g2 cap3 w2 c0 a0 h0 g0)
      have HO:H (jCo w2 b0 g2 (q+1) cap3 (Gm.dl k)):=jCo.snoc (by rw[m0];exact c0);have HM:H (zQ w2 w b0 (Q G 0 I) k cap A (fun _=>n) C (fun i j=>((Gm.dl i j:Nat):Int))):=zQ.rowed _ hM o0 a0;have hb':Ab w w w2:=(d0.alloc k0 _).grown (show World.grownBy _ w2 (M gr) from a0) (by simp;omega) (fun j hj=>by cases hj;omega);clear c0 a0 h0 g0 e0 hM;go_roundw
      case rel=>exact⟨q+1,g2,cap3,by omega,by go_num,rfl,HO.out,HM.out,hb'⟩
      case measure=>simp[intOf] <;> omega
    .obtain rfl:q=n:=by omega
     have t0:¬ (q:Int)<(q:Int):=by omega
     go_wp2_with (at_builtin;refine De _ rfl _ _ 200 rfl w 40 i1 (V I 0 0) 1 24 underlying200 hj u0 v0 w0 rfl (by decide) (V (M ⟨G,0,I⟩) k cap) k _ rfl (Cb hM.out _) ⟨wr.1.size,0,I⟩ 1 1 [V (M ⟨gr,0,I⟩) q f0] rfl rfl (Cf (cs:=#[V (Q gr 0 I) q f0]) (t:=40) (fr:=(0,0)) (Cq wr _)) (by simp[Aq]) (by omega) (by unfold Au;omega) (by omega) (by simp;omega) (wr.1.size+1) (by simp) ?_;intro g2 cap3 w2 c0 a0 h0 g0)
     obtain⟨A',C',hP⟩:=zQ.pushed _ hM j0 e0 a0 c0;have HP:H (zQ w2 w w2.1.size g2 (k+1) cap3 A' (fun _=>q) C' (fun i j=>((Gm.dl i j:Nat):Int))):=hP;have hb':Ab w w w2:=(d0.alloc k0 _).grown (show World.grownBy _ w2 (M G) from a0) (by simp;omega) (fun j hj=>by cases hj;exact s0);clear c0 a0 h0 g0 e0 hM hP;go_roundw
     case rel=>exact⟨k+1,g2,cap3,A',C',by omega,by go_num,rfl,HP.out,hb'⟩
     case measure=>simp[intOf] <;> omega
  .obtain rfl:k=n:=by omega
   have KM:H _:=hM;clear hM;go_wp2
   go_ret
   exact⟨G,cap,A,C,rfl,KM.out,d0⟩
section
variable {k:IntKind} {T TT:Nat} {w w':World} {B E:Nat} {n cap:Nat} {A:Nat->Option Addr} {L C:Nat->Nat} {Z:Nat->Nat->Int}
end
end
def vY (w:Ad) (B g n cap:Nat) (f:Nat->Nat):Prop:=w.ownsRow B 5 1 (V g n cap) n ((eI f n).map (Ao .u8))
theorem vY.lt {w:Ad} {B g n cap:Nat} {f:Nat->Nat} (h:vY w B g n cap f):B<=g/\g<w:=A0 h g rfl
theorem vY.cell {w:Ad} {B g n cap i:Nat} {f:Nat->Nat} (h:vY w B g n cap f) (hi:i<n):w.cell? (Q g i I)=M (Ao .u8 ((f i:Nat):Int)):=by
 rw[Br h i (by omega)];simp[eI,hi]
theorem vY.below {w w':Ad} {B g n cap:Nat} {f:Nat->Nat} (h:vY w B g n cap f) (hb:Ab w w w'):vY w' B g n cap f:=jE h hb
theorem vY.congr {w:Ad} {B g n cap:Nat} {f h:Nat->Nat} (ho:vY w B g n cap f) (e:∀ i,i<n->f i=h i):vY w B g n cap h:=by
 unfold vY at *;rw[<-jF4 e];exact ho
theorem vY.set {w:Ad} {B g n cap k v:Nat} {f:Nat->Nat} (h:vY w B g n cap f) (hk:k<n):vY (w.setCell (Q g k I) (Ao .u8 (v:Int))) B g n cap (fun i=>if i=k then v else f i)/\w.grownBy (w.setCell (Q g k I) (Ao .u8 (v:Int))) (M g):=by
 have h1:=(Dh h k (Ao .u8 (v:Int))).1;rw[jRm f n k v .u8 hk] at h1;exact⟨h1,jP w g k _⟩
def rs (R:Nat->Nat) (T:Nat->Nat->Nat) (i p:Nat):Nat:=Gm.sm (fun t=>Gp.m (R t) (T t p)) i
theorem jSe (R:Nat->Nat) (T:Nat->Nat->Nat) (i p:Nat):rs R T i p<256:=Gm.sm_lt (fun _=>Gp.m_lt _ _) _
theorem jQk {R:Nat->Nat} {T:Nat->Nat->Nat} {i q:Nat} (hR:R i<256) (hT:T i q<256) (p:Nat):(if p=q then rs R T i q ^^^ Gf.mul (T i q) (R i) else if p<q then rs R T (i+1) p else rs R T i p)=if p<q+1 then rs R T (i+1) p else rs R T i p:=by
 by_cases e:p=q
 .subst e;rw[A6 rfl,A6 (by omega),Gp.m_nat hT hR,Gp.m_comm];rfl
 .rw[A5 e];by_cases e2:p<q
  .rw[A6 e2,A6 (by omega)]
  .rw[A5 e2,A5 (by omega)]
def jBi (w:Ad) (a:OA) (n l:Nat) (T:Nat->Nat->Nat):Prop:=
 ∀ i,i<n->∃ b off g o c,a=M (Q b off I)/\w.cell? (Q b (off+i) I)=M (V (Q g o I) l c)/\∀ p,p<l->w.cell? (Q g (o+p) I)=M (Ao .u8 ((T i p:Nat):Int))
theorem jBi.below {w w':Ad} {a:OA} {n l:Nat} {T:Nat->Nat->Nat} (h:jBi w a n l T) (hb:Ab w w w'):jBi w' a n l T:=fun i hi=>by
 obtain⟨b,off,g,o,c,e,hc,hp⟩:=h i hi;exact⟨b,off,g,o,c,e,(hb.cell (p:=Q b (off+i) I) (A7 hc)).trans hc,fun p a0=>(hb.cell (p:=Q g (o+p) I) (A7 (hp p a0))).trans (hp p a0)⟩
set_option maxRecDepth 100000 in
theorem jFa (ra:OA) (rc:Nat) (R:Nat->Nat) (a:OA) (cp n l:Nat) (T:Nat->Nat->Nat) (w:Ad) (hr:jH w ra n (eI R n)) (h:jBi w a n l T) (hT:Gm.Byt T) (hn:1<=n/\n<=16) (hl:1<=l/\l<=1048576) (hR:∀ i,R i<256):Ak prog 239 #[.slice ra n rc,.slice a n cp] w fun e w'=>e=Ae (.slice (Q w 0 I) l l)/\vY w' w w.1.size l l (rs R T n)/\Ab w w w':=by
 obtain⟨i0,hi,x0,y0,z0⟩:=Cg Tryz.infoByte;obtain⟨x1,k1⟩:=hn;obtain⟨v1,j1⟩:=hl;have KH:H (jBi w a n l T):=h;have KR:H (jH w ra n (eI R n)):=hr;have t0:0<n:=by omega
 obtain⟨b0,a1,s1,a2,r1,rfl,n0,_⟩:=h 0 t0;rw[Cp] at n0;clear h hr;go_enter func239,ntmps239
 go_wp2_with (at_make;refine Cv _ rfl _ _ 22 rfl w 5 i0 (Ao .u8 0) 1 Cr hi x0 y0 Ar Ar _ _ l rfl rfl rfl rfl (by rw[z0];omega) (by unfold Au;omega) (Ay _) ?_;intro w1 a0 e0)
 have m0:Ab w w w1:=(Az _ _).grown e0 (Ay _) (by simp);have u0:vY w1 w w.1.size l l (rs R T 0):=by
  unfold vY;rw[jF5 (f:=rs R T 0) l 0 (fun _ _=>rfl)];simpa [Value.cells,Do] using a0
 have K1:H (vY w1 w w.1.size l l (rs R T 0)):=u0;have KB1:H (Ab w w w1):=m0;clear a0 e0 u0 m0 hi x0 y0 z0 n0;go_loopw [17] (fun i wr=>∃ k:Nat,k<=n/\i=Ao Ar k/\vY wr w w.1.size l l (rs R T k)/\Ab w w wr) (fun i _=>n-(intOf i).toNat)
 case atStart=>exact⟨0,Bi _,rfl,K1,KB1⟩
 case round=>
  obtain⟨k,hk,rfl,a0,hbel⟩:=hrel;clear K1 KB1;by_cases hlt:k<n
  .have u1:(k:Int)<(n:Int):=by omega
   obtain⟨b1,p1,g1,o1,c1,eb,d0,v0⟩:=KH k hlt;cases eb;have t1:=(hbel.cell (p:=Q b0 (a1+k) I) (A7 d0)).trans d0;have KP:H (∀ p,p<l->w.cell? (Q g1 (o1+p) I)=M (Ao .u8 ((T k p:Nat):Int))):=v0;clear v0 d0;obtain⟨br,q1,rfl,o0⟩:=(KR.below hbel).2 k hlt;rw[JU _ _ _ hlt] at o0;have h0:=hR k;obtain⟨X,hX⟩:∃ X,R k=X:=⟨_,rfl⟩;have KX:H (R k=X):=hX;rw[hX] at o0 h0;clear hX;have z1:IntKind.u8.wrap (X:Int)=(X:Int):=by rw[Di];omega
   have m1:=hbel.size;by_cases hx0:X=0
   .subst hx0;have HO:H (vY wr w w.1.size l l (rs R T (k+1))):=a0.congr (fun p _=>by unfold rs;rw[Gm.sm_s,KX.out,Gp.zero_m,Nat.xor_zero]);clear a0;go_wp2
    go_roundw
    case rel=>exact⟨k+1,by omega,by go_num,HO.out,hbel⟩
    case measure=>simp[intOf] <;> omega
   .have n1:((X:Int)==0)=Av:=by simp;omega
    have K2:H (vY wr w w.1.size l l (fun p=>if p<0 then rs R T (k+1) p else rs R T k p)):=a0.congr (fun p _=>by simp);have KB2:H (Ab w w wr):=hbel;have e1:=hbel;clear a0 hbel;go_wp2
    go_loopw [31] (fun i wr=>∃ q:Nat,q<=l/\i=Ao Ar q/\vY wr w w.1.size l l (fun p=>if p<q then rs R T (k+1) p else rs R T k p)/\Ab w w wr) (fun i _=>l-(intOf i).toNat)
    case atStart=>exact⟨0,Bi _,rfl,K2,KB2⟩
    case round=>
     obtain⟨q,hq,rfl,a0,hbel⟩:=hrel;clear K2 KB2;by_cases hql:q<l
     .have y1:(q:Int)<(l:Int):=by omega
      have k0:=(hbel.cell (p:=Q g1 (o1+q) I) (A7 (KP q hql))).trans (KP q hql);have f0:=a0.cell hql;simp only[Fo,Dj] at f0;have q0:=B0 a0 q;have w0:=jSe R T k q;have KS:H (∀ p,(if p=q then rs R T k q ^^^ Gf.mul (T k q) (R k) else if p<q then rs R T (k+1) p else rs R T k p)=if p<q+1 then rs R T (k+1) p else rs R T k p):=fun p=>jQk (hR k) (hT k q) p
      rw[KX.out] at KS;have KO:H (vY wr w w.1.size l l (fun p=>if p<q then rs R T (k+1) p else rs R T k p)):=a0;obtain⟨Y,hY⟩:∃ Y,rs R T k q=Y:=⟨_,rfl⟩;rw[hY] at f0 w0 KS;have j0:=hT k q;generalize T k q=V at k0 j0 KS;have f1:=Gf.mul_lt j0 h0;have s0:=a0.lt.2;have KB:H (Ab w w wr):=hbel;clear a0 hY hbel;go_wp2_with fail
      go_region_with ((first|(go_at_call 250;refine(jLt V X _ j0 h0).mono ?_;rintro e w5 ⟨rfl,g0⟩;have c0:=jC g0;clear g0;have p0:=(c0.cell (p:=Q w q I) s0).trans f0;have r0:=(Cx (a:=(Q w q I)) (c0.block _ s0)).trans q0;have i1:=(c0.cell (p:=Q g1 (o1+q) I) (A7 k0)).trans k0)|(go_at_call 237;refine(jGm Y (Gf.mul V X) _ w0 f1).mono ?_;rintro e w6 ⟨rfl,hw6⟩;obtain rfl:=hw6.symm)))
      all_goals
       have hS:=vY.set (k:=q) (v:=Y ^^^ Gf.mul V X) (KO.below c0) hql;have HO:H (vY (w5.setCell (Q w q I) (Ao .u8 ((Y ^^^ Gf.mul V X:Nat):Int))) w w.1.size l l (fun p=>if p<q+1 then rs R T (k+1) p else rs R T k p)):=hS.1.congr (fun p _=>KS p);have HB:H (Ab w w (w5.setCell (Q w q I) (Ao .u8 ((Y ^^^ Gf.mul V X:Nat):Int)))):=(jA KB c0).setCell (Ay _) _;clear hS f0 q0 p0 r0 KO KS KB;go_wp2
       go_roundw
       case rel=>exact⟨q+1,by omega,by go_num,HO.out,HB.out⟩
       case measure=>simp[intOf] <;> omega
     .obtain rfl:q=l:=by omega
      have HO:H (vY wr w w.1.size q q (rs R T (k+1))):=a0.congr (fun p hp=>A6 hp);clear a0;go_wp2
      go_roundw
      case rel=>exact⟨k+1,by omega,by go_num,HO.out,hbel⟩
      case measure=>simp[intOf] <;> omega
  .obtain rfl:k=n:=by omega
   have HO:H _:=a0;clear a0;go_wp2
   go_ret
   exact⟨rfl,HO,hbel⟩
theorem jNi (n:Int):inB n 1 16=jAp n:=rfl
theorem invM {x:Nat} (h:x<256) (h0:x≠0):jQ7 (x:Int)=((Gf.inv x:Nat):Int):=by
 unfold jQ7;rw[A6 (by omega)];simp
theorem jFh (k n:Int) (w:Ad):Ak prog 162 #[Ao Ar k,n] w fun e w'=>∃ v,e=Ae (Ah #[v,(qV k n)])/\jFv w w' v (jBe k n) k.toNat (Gm.sprd k.toNat)/\Ab w.1.size w w':=by
 obtain⟨i0,hi,r0,s0,t0⟩:=Cg Tryz.infoInt;obtain⟨i1,hj,o0,p0,q0⟩:=Cg Tryz.infoInts;have n0:=jNi n;by_cases h1:jAp n=Aw
 case neg=>
  have u0:jAp n=Av:=by simpa using h1
  have d0:qV k n=Av:=by unfold qV;simp[u0]
  have hN:jBe k n=0:=by unfold jBe;rw[A5 (by rw[d0];simp)]
  rw[hN,d0];rw[u0] at n0;clear d0 hN hi r0 s0 t0 hj o0 p0 q0;go_enter func162,ntmps162
  go_wp2_with (go_at_call 43;refine(jN _ _ _ _).mono ?_;rintro e w' ⟨rfl,hw⟩;obtain rfl:=hw.symm)
  go_ret2
  exact⟨_,rfl,jKx _ _ (Ay _) _ _,(Az _ _).alloc (Ay _) _⟩
 rw[h1] at n0;by_cases h2:1<=k/\k<=n
 case neg=>
  have d0:qV k n=Av:=by unfold qV;simp[h2]
  have hN:jBe k n=0:=by unfold jBe;rw[A5 (by rw[d0];simp)]
  have k0:inB k 1 n=Av:=by unfold inB;simpa using h2
  rw[hN,d0];clear d0 hN h2 hi r0 s0 t0 hj o0 p0 q0;go_enter func162,ntmps162
  go_wp2_with (go_at_call 43;refine(jN _ _ _ _).mono ?_;rintro e w' ⟨rfl,hw⟩;obtain rfl:=hw.symm)
  go_ret2
  exact⟨_,rfl,jKx _ _ (Ay _) _ _,(Az _ _).alloc (Ay _) _⟩
 have hr:1<=n/\n<=16:=by simpa [jAp] using h1
 have k0:inB k 1 n=Aw:=by unfold inB;simpa using h2
 have d0:qV k n=Aw:=by unfold qV;rw[h1];simp;omega
 obtain⟨N,rfl⟩:∃ N:Nat,n=(N:Int):=⟨n.toNat,by omega⟩;obtain⟨K,rfl⟩:∃ K:Nat,k=(K:Int):=⟨k.toNat,by omega⟩;have hN:jBe (K:Int) (N:Int)=N:=by unfold jBe;rw[A6 d0];simp
 rw[hN,d0,Cy];have j1:1<=K:=by omega
 have hKN:K<=N:=by omega
 have f1:N<=16:=by omega
 clear hN d0 hr h1 h2;have KU:H _:=jIe K w (by omega);go_enter func162,ntmps162
 go_wp2_with (go_at_call 43;refine(jN _ _ _ _).mono ?_;rintro e w' ⟨rfl,hw⟩;obtain rfl:=hw.symm)
 refine Ax KU.out ?_;rintro e w1 ⟨G1,cap1,A1,C1,rfl,v0,hb1⟩;have H0:H (zQ w1 w.1.size w1.1.size G1 K cap1 A1 (fun _=>K) C1 (fun i j=>((Gm.sprd K i j:Nat):Int))):=v0.congr (fun i hi=>⟨rfl,rfl,rfl,fun j _=>by unfold Gm.sprd;rw[A6 hi]⟩);clear v0 KU n0 k0;go_wp2
 go_loopw [6,7] (fun v i wr=>∃ k G cap A C,K<=k/\k<=N/\i=Ao Ar ((k:Nat):Int)/\v=.slice (Q G 0 I) k cap/\zQ wr w.1.size wr.1.size (Q G 0 I) k cap A (fun _=>K) C (fun i j=>((Gm.sprd K i j:Nat):Int))/\Ab w.1.size w wr) (fun _ i _=>N-(intOf i).toNat)
 case atStart=>exact⟨K,G1,cap1,A1,C1,Ay _,hKN,rfl,rfl,H0.out,hb1⟩
 case round=>
  obtain⟨k,G,cap,A,C,k1,hk,rfl,rfl,hM,c0⟩:=hrel;clear H0;by_cases hlt:k<N
  .have m1:(k:Int)<(N:Int):=by omega
   have j0:=c0.size;have KR:H (jCo (wr.alloc (J #[] 3)) wr.1.size wr.1.size 0 0 (Gm.sprd K k)):=lit0 wr (Gm.sprd K k);have KM:H (zQ (wr.alloc (J #[] 3)) w.1.size wr.1.size (Q G 0 I) k cap A (fun _=>K) C (fun i j=>((Gm.sprd K i j:Nat):Int))):=hM.below ((Az _ _).alloc (Ay _) _);have KB:H (Ab w.1.size w (wr.alloc (J #[] 3))):=c0.alloc j0 _;have a1:=hM.olt.1;clear hM c0;obtain⟨b0,w0⟩:∃ b0,wr.1.size=b0:=⟨_,rfl⟩;rw[w0] at KR KM j0;go_wp2
   clear w0;go_loopw [8,9] (fun v i wr=>∃ q gr f0,q<=K/\i=Ao Ar ((q:Nat):Int)/\v=.slice (Q gr 0 I) q f0/\jCo wr b0 gr q f0 (Gm.sprd K k)/\zQ wr w.1.size b0 (Q G 0 I) k cap A (fun _=>K) C (fun i j=>((Gm.sprd K i j:Nat):Int))/\Ab w.1.size w wr) (fun _ i _=>K-(intOf i).toNat)
   case atStart=>exact⟨0,_,_,Bi _,rfl,rfl,KR.out,KM.out,KB.out⟩
   case round=>
    obtain⟨q,gr,f0,hq,rfl,rfl,g0,hM,c0⟩:=hrel;clear KR KM KB;have b1:=g0.lt.1;have y0:=c0.size;have g1:=g0.lt.2;by_cases hqn:q<K
    .have c1:(q:Int)<(K:Int):=by omega
     have n1:=jCk k q (by omega) (by omega);have z0:k ^^^ q≠0:=fun e=>by have:=Gp.xor_eq e;omega
     have e1:k ^^^ q<256:=Gf.xor_lt (by omega) (by omega);have HV:H (Gm.sprd K k q=Gf.inv (k ^^^ q)):=by show _=_;unfold Gm.sprd;rw[A5 (by omega)]
     have x0:=invM e1 z0;have hS:=fun w=>jNe ((k ^^^ q:Nat):Int) w
     rw[x0] at hS;generalize Gf.inv (k ^^^ q)=V at HV hS;clear x0 z0;go_wp2_with (first|(go_at_call 186;refine(hS _).mono ?_;rintro e w' ⟨rfl,hw⟩;obtain rfl:=hw.symm)|(at_builtin;refine De _ rfl _ _ 40 rfl b0 3 i0 () 1 8 Ec hi r0 s0 t0 rfl (by decide) (.slice (M ⟨gr,0,I⟩) q f0) q _ rfl (Cb g0 _) ⟨wr.1.size,0,I⟩ 1 1 [(V:Int)] rfl rfl (Cf (cs:=#[Ao Ar (V:Int)]) (t:=3) (fr:=(0,0)) (Cq wr _)) (by simp[Aq]) (by omega) (by unfold Au;omega) (by omega) (by simp;omega) (wr.1.size+1) (by simp) ?_;intro g2 cap3 w2 e0 a0 m0 h0))
     have HO:H (jCo w2 b0 g2 (q+1) cap3 (Gm.sprd K k)):=jCo.snoc (by rw[HV.out];exact e0);have HM:H (zQ w2 w.1.size b0 (Q G 0 I) k cap A (fun _=>K) C (fun i j=>((Gm.sprd K i j:Nat):Int))):=zQ.rowed _ hM b1 a0;have hb':Ab w.1.size w w2:=(c0.alloc y0 _).grown (show World.grownBy _ w2 (M gr) from a0) (by simp;omega) (fun j hj=>by cases hj;omega);clear e0 a0 m0 h0 g0 hM;go_roundw
     case rel=>exact⟨q+1,g2,cap3,by omega,by go_num,rfl,HO.out,HM.out,hb'⟩
     case measure=>simp[intOf] <;> omega
    .obtain rfl:K=q:=by omega
     have c1:¬ (K:Int)<(K:Int):=by omega
     go_wp2_with (at_builtin;refine De _ rfl _ _ 200 rfl w.1.size 40 i1 (.slice I 0 0) 1 24 underlying200 hj o0 p0 q0 rfl (by decide) (.slice (M ⟨G,0,I⟩) k cap) k _ rfl (Cb hM.out _) ⟨wr.1.size,0,I⟩ 1 1 [.slice (M ⟨gr,0,I⟩) K f0] rfl rfl (Cf (cs:=#[.slice (Q gr 0 I) K f0]) (t:=40) (fr:=(0,0)) (Cq wr _)) (by simp[Aq]) (by omega) (by unfold Au;omega) (by omega) (by simp;omega) (wr.1.size+1) (by simp) ?_;intro g2 cap3 w2 e0 a0 m0 h0)
     obtain⟨A',C',hP⟩:=zQ.pushed _ hM j0 g0 a0 e0;have HP:H (zQ w2 w.1.size w2.1.size g2 (k+1) cap3 A' (fun _=>K) C' (fun i j=>((Gm.sprd K i j:Nat):Int))):=hP;have hb':Ab w.1.size w w2:=(c0.alloc y0 _).grown (show World.grownBy _ w2 (M G) from a0) (by simp;omega) (fun j hj=>by cases hj;exact a1);clear e0 a0 m0 h0 g0 hM hP;go_roundw
     case rel=>exact⟨k+1,g2,cap3,A',C',by omega,by omega,by go_num,rfl,HP.out,hb'⟩
     case measure=>simp[intOf] <;> omega
  .obtain rfl:k=N:=by omega
   have KM:H _:=hM;clear hM;go_wp2
   go_ret2
   exact⟨_,rfl,jFv.mk KM.out (Ay _),c0⟩
def ovl (f:Nat->Nat) (off m:Nat) (h:Nat->Nat) (i:Nat):Nat:=if off<=i/\i<off+m then h (i-off) else f i
theorem jMz (f h:Nat->Nat) (n off m:Nat) (hm:off+m<=n):((eI f n).map (Ao .u8)).take off++((eI h m).map (Ao .u8)++((eI f n).map (Ao .u8)).drop (off+m))=(eI (ovl f off m h) n).map (Ao .u8):=by
 apply Co
 intro i;simp only[List.getElem?_append,Cu,List.length_map,vA,List.getElem?_take,List.getElem?_drop];by_cases h1:i<off
 .have h2:i<min off n:=by omega
  simp[h1,h2,eI,ovl,show i<n by omega,show ¬ (off<=i/\i<off+m) by omega]
 .by_cases h3:i<off+m
  .have h2:¬ i<min off n:=by omega
   simp[h2,eI,ovl,show i<n by omega,show off<=i by omega,h3,show i-off<m by omega,show i-min off n=i-off by omega]
  .have h2:¬ i<min off n:=by omega
   have h4:¬ i-min off n<m:=by omega
   simp only[h2,h4,Dj];rw[show off+m+(i-min off n-m)=i by omega];by_cases h5:i<n
   .simp[eI,ovl,h5,show ¬ (off<=i/\i<off+m) by omega]
   .rw[Be (by simp[vA];omega),Be (by simp[vA];omega)]
theorem vY.heap {w:Ad} {B g n:Nat} {f:Nat->Nat} (h:vY w B g n n f):w.heap[g]?=M (J ((eI f n).map (Ao .u8)).toArray 5 (0,0))/\B<=g/\n<=Au:=by
 rcases h.2 with ⟨e,_⟩|⟨g',cap,a0,e,hB,hg,hn,hm,hs,ht⟩
 .cases e
 .cases e;have e2:=Dl (by rw[Cw,hs];exact Ay _);rw[e2] at ht;refine⟨?_,hB,hm⟩;rw[hg,<-ht]
theorem vY.of {w:Ad} {B g n:Nat} {f:Nat->Nat} (h:w.1[g]?=M (J ((eI f n).map (Ao .u8)).toArray 5 (0,0))) (hB:B<=g) (hm:n<=Au):vY w B g n n f:=
 ⟨by simp[vA],.inr ⟨g,n,_,rfl,hB,h,Ay _,hm,by simp[vA],by rw[Dl (by simp[vA])]⟩⟩
theorem jBl (s:BA):Go.Lib.byteCells s.data.toList=(eI (tat s) s.size).map (Ao .u8):=by
 apply Co
 intro i;unfold Go.Lib.byteCells;by_cases h:i<s.size
 .have h':i<s.data.toList.length:=by simpa using h
  rw[Eb,Eb,jCx _ _ _ h,Bj h'];simp[tat,List.getD,Bj h']
 .rw[Be (by simp at h |-;exact h),Be (by simp[vA];omega)]
theorem ZC {w:Ad} {g0:Array Oper} {f0:List Oper} {o:Oper} {a:Act} {Q:Exit->Act->Ad->Prop} (k0:o.guard=I) (d s:Operand) (sT:TypeId)
  (ho:o.op=.call {callee:=.builtin .copy,args:=#[d,s],argTypes:=#[22,sT]})
  (dp:OA) (a0 b0:Nat) (S:BA) (hd:a.eval d=V dp a0 b0) (hs:a.eval s=Ag S) (B g n:Nat) (f:Nat->Nat) (e0:vY w B g n n f) (off:Nat) (j0:0<S.size->dp=M (Addr.mk g off I)) (m0:S.size<=a0) (d0:off+S.size<=n)
  (h:∀ w',vY w' B g n n (ovl f off S.size (tat S))->w.grownBy w' (M g)->wpList prog g0 Q f0 (a.put o.dst (goInt S.size)) w'):wpList prog g0 Q (o::f0) a w:=by
 obtain⟨hg,hB,hm⟩:=e0.heap;have hu:=Cr;have hz:(Tryz.prog.info? 5).map (·.size)=M 1:=by
  obtain⟨i0,hi,_,n0,_⟩:=Cg Tryz.infoByte;rw[hi];simp[n0]
 refine Gw k0 fun K hK=>?_
 by_cases h0:S.size=0
 .have c0:=Go.Lib.run_copy_empty_string (P:=prog) w 22 sT o.type 5 dp a0 b0 S hu (by rw[hz];rfl) h0;unfold Oper.wp;simp[execOp,ho,resolve,invoke,builtin,hd,hs,c0,Result.andThen];refine hK _ _ ?_;have h1:=h w (e0.congr (fun i _=>by unfold ovl;rw[A5 (by omega)])) (F7 _ _);rw[h0] at h1;exact h1
 .obtain rfl:=j0 (by omega);have c0:=Go.Lib.run_copy_row_string (P:=prog) w 22 sT o.type 5 g off a0 b0 S _ 5 hu hz hg m0 (by simp[vA];exact d0);unfold Oper.wp;simp[execOp,ho,resolve,invoke,builtin,hd,hs,c0,Result.andThen];refine hK _ _ (h _ ?_ ⟨rfl,rfl,rfl,by simp[World.setRow],fun j _ hj=>Cd w g j _ (fun e=>hj (by rw[e]))⟩);refine vY.of ?_ hB hm;rw[setRow_heap w g _ _ 5 _ hg,jBl,<-jMz f (tat S) n off S.size d0]
theorem shr8 {n:Nat} (hn:n<=2000):IntKind.u8.wrap ((n:Int) / 256)=((n / 256:Nat):Int):=by rw[Di];omega
theorem low8 (n:Nat):IntKind.u8.wrap (n:Int)=((n % 256:Nat):Int):=by rw[Di];omega
theorem jRz {w1:Ad} {B g N:Nat} (a0:w1.ownsRow B 5 1 (V g N N) N (madeCells (Ao .u8 0).cells (N*1)).toList):vY w1 B g N N (fun _=>0):=by
 unfold vY;rw[jF5 (f:=fun _=>0) N 0 (fun _ _=>rfl)];simpa [Value.cells,Do] using a0
theorem twoB {w w1:Ad} {g N x y:Nat} {f:Nat->Nat} (h:vY w1 w g N N f) (hN:1<N) (hb:Ab w w w1):(w1.cell? g=M (Ao .u8 ((f 0:Nat):Int))/\w1.frozen? g=Av)/\((w1.setCell g (Ao .u8 (x:Int))).cell? (Q g 1 I)=M (Ao .u8 ((f 1:Nat):Int))/\(w1.setCell g (Ao .u8 (x:Int))).frozen? (Q g 1 I)=Av)/\vY ((w1.setCell g (Ao .u8 (x:Int))).setCell (Q g 1 I) (Ao .u8 (y:Int))) w g N N (fun i=>if i=1 then y else if i=0 then x else f i)/\Ab w w ((w1.setCell g (Ao .u8 (x:Int))).setCell (Q g 1 I) (Ao .u8 (y:Int))):=by
 have h1:=vY.set (k:=0) (v:=x) h (by omega);have h2:=vY.set (k:=1) (v:=y) h1.1 hN;refine⟨⟨h.cell (by omega),B0 h 0⟩,⟨?_,B0 h1.1 1⟩,h2.1,(hb.setCell h.lt.1 _).setCell h.lt.1 _⟩;have:=h1.1.cell (i:=1) hN
 simpa using this
set_option maxRecDepth 100000 in
theorem jHl (s:BA) (N:Nat) (w:Ad) (hs:s.size<=2000) (hN:s.size+2<=N) (p0:N<=100000):Ak prog 224 #[s,(N:Int)] w fun e w'=>e=Ae (V (Q w 0 I) N N)/\vY w' w w.1.size N N (frm s)/\Ab w w w':=by
 obtain⟨i0,hi,j0,k0,m0⟩:=Cg Tryz.infoByte;obtain⟨n,hn⟩:∃ n,s.size=n:=⟨_,rfl⟩;have e1:=shr8 (n:=n) (by omega);have e2:=low8 n;have KF:H (∀ i,i<N->frm s i=ovl (fun i=>if i=1 then n % 256 else if i=0 then n / 256 else 0) 2 n (tat s) i):=fun i hi=>by
  unfold frm ovl;rw[hn];by_cases h0:i=0
  .subst h0;simp
  .by_cases h1:i=1
   .subst h1;simp
   .rw[A5 h0,A5 h1];by_cases h2:i<2+n
    .rw[A6 (by omega)]
    .rw[A5 (by omega)];simp only[h1,h0,Dj];exact zN s _ (by omega)
 obtain⟨x,hx⟩:∃ x,n / 256=x:=⟨_,rfl⟩;obtain⟨y,hy⟩:∃ y,n % 256=y:=⟨_,rfl⟩;rw[hx] at e1 KF;rw[hy] at e2 KF;have o0:(1:Int)<(N:Int):=by omega
 have n0:(0:Int)<(N:Int):=by omega
 have q0:(2:Int)<=(N:Int):=by omega
 have g0:1<N:=by omega
 have r0:0<N:=by omega
 have s0:2<=N:=by omega
 by_cases hN7:N=2
 case pos=>
  subst hN7;go_enter func224,ntmps224
  go_wp2_with (first|(at_make;refine Cv _ rfl _ _ 22 rfl w 5 i0 (Ao .u8 0) 1 Cr hi j0 k0 Ar Ar _ _ 2 rfl rfl rfl rfl (by rw[m0];omega) (by unfold Au;omega) (Ay _) ?_;intro w1 b0 a0;have d0:Ab w w w1:=(Az _ _).grown a0 (Ay _) (by simp);obtain⟨⟨hc0,hf0⟩,⟨hc1,hf1⟩,hO2,hB2⟩:=twoB (x:=x) (y:=y) (jRz b0) g0 d0;have K2:H _:=hO2;have c0:H _:=hB2;clear hO2 hB2 b0 a0 d0)|(guard_hyp K2;refine ZC rfl _ _ 9 rfl _ _ _ s rfl rfl _ _ _ _ K2 2 (fun h=>by first|rfl|omega) (by omega) (by omega) ?_;intro w5 hO5 hg5;have f0:H _:=hO5;have e0:H (Ab w w w5):=c0.grown hg5 c0.size (fun j hj=>by cases hj;exact Ay _);clear hO5 hg5))
  go_wp2
  go_ret
  exact⟨rfl,vY.congr f0 (fun i hi=>by rw[hn];exact(KF i (by omega)).symm),e0.out⟩
 have t0:¬ N-2=0:=by omega
 go_enter func224,ntmps224
 go_wp2_with (first|(at_make;refine Cv _ rfl _ _ 22 rfl w 5 i0 (Ao .u8 0) 1 Cr hi j0 k0 Ar Ar _ _ N rfl rfl rfl rfl (by rw[m0];omega) (by unfold Au;omega) (Ay _) ?_;intro w1 b0 a0;have d0:Ab w w w1:=(Az _ _).grown a0 (Ay _) (by simp);obtain⟨⟨hc0,hf0⟩,⟨hc1,hf1⟩,hO2,hB2⟩:=twoB (x:=x) (y:=y) (jRz b0) g0 d0;have K2:H _:=hO2;have c0:H _:=hB2;clear hO2 hB2 b0 a0 d0)|(guard_hyp K2;refine ZC rfl _ _ 9 rfl _ _ _ s rfl rfl _ _ _ _ K2 2 (fun h=>by first|rfl|omega) (by omega) (by omega) ?_;intro w5 hO5 hg5;have f0:H _:=hO5;have e0:H (Ab w w w5):=c0.grown hg5 c0.size (fun j hj=>by cases hj;exact Ay _);clear hO5 hg5))
 go_wp2
 go_ret
 exact⟨rfl,vY.congr f0 (fun i hi=>by rw[hn];exact(KF i (by omega)).symm),e0.out⟩
theorem Tryz.infoBytes:(Tryz.prog.info? 22).map (fun i=>(i.zero,i.size,i.bytes))=M (M (V I 0 0),1,24):=by kernel_rfl
theorem ZN.rowE {w:Ad} {a:OA} {r n:Nat} {F:Nat->Nat->Nat} (h:ZN w a r (fun _=>n) (fun i j=>((F i j:Nat):Int))) {i:Nat} (hi:i<r):∃ b off ai ci,a=M (Q b off I)/\w.cell? (Q b (off+i) I)=M (V ai n ci)/\jH w ai n (eI (F i) n):=h i hi
set_option maxRecDepth 100000 in
theorem jDs (ma:OA) (mc r:Nat) (F:Nat->Nat->Nat) (a:OA) (cp n l:Nat) (T:Nat->Nat->Nat) (w:Ad) (hm:ZN w ma r (fun _=>n) (fun i j=>((F i j:Nat):Int))) (h:jBi w a n l T) (hT:Gm.Byt T) (hr:r<=1048576) (hn:1<=n/\n<=16) (hl:1<=l/\l<=1048576) (hF:Gm.Byt F):Ak prog 222 #[V ma r mc,V a n cp] w fun e w'=>e=Ae (V (Q w 0 I) r r)/\jI w' w (Q w 0 I) r r (bod n F T l)/\Ab w w w':=by
 obtain⟨i0,hi,o0,p0,q0⟩:=Cg Tryz.infoStr;have KH:H (jBi w a n l T):=h;have KM:H (ZN w ma r (fun _=>n) (fun i j=>((F i j:Nat):Int))):=hm;clear h hm;go_enter func222,ntmps222
 go_wp2_with (at_make;refine Cv _ rfl _ _ 27 rfl w 9 i0 Ap 1 C3 hi o0 p0 Ar Ar _ _ r rfl rfl rfl rfl (by rw[q0];omega) (by unfold Au;omega) (Ay _) ?_;intro w1 a0 c0)
 have h0:Ab w w w1:=(Az _ _).grown c0 (Ay _) (by simp);have K1:H (jI w1 w (Q w 0 I) r r (fun i=>if i<0 then bod n F T l i else Ap)):=by
  have e:sL (fun i=>if i<0 then bod n F T l i else Ap) r=List.replicate r (Ag Ap):=by rw[<-ZL];exact xR (fun i _=>by simp)
  show jI _ _ _ _ _ _;unfold jI;rw[e];simpa [Value.cells,Do] using a0
 have KB1:H (Ab w w w1):=h0;clear a0 c0 h0 hi o0 p0 q0;go_loopw [13] (fun i wr=>∃ k:Nat,k<=r/\i=Ao Ar k/\jI wr w (Q w 0 I) r r (fun i=>if i<k then bod n F T l i else Ap)/\Ab w w wr) (fun i _=>r-(intOf i).toNat)
 case atStart=>exact⟨0,Bi _,rfl,K1,KB1⟩
 case round=>
  obtain⟨k,hk,rfl,a0,b0⟩:=hrel;clear K1 KB1;by_cases hlt:k<r
  .have v0:(k:Int)<(r:Int):=by omega
   obtain⟨b1,t0,ai,ci,rfl,u0,n0⟩:=(KM.below b0).rowE hlt;have KC:H _:=jFa ai ci (F k) a cp n l T wr n0 (KH.below b0) hT hn hl (fun i=>hF k i);have m0:=(A0 a0 _ rfl).2;obtain⟨old,e0⟩:∃ v,wr.cell? (Q w k I)=M v:=by
    rw[Br a0 k (by omega)];exact⟨_,zB _ _ _ hlt⟩
   have k0:=B0 a0 k;have KO:H (jI wr w (Q w 0 I) r r (fun i=>if i<k then bod n F T l i else Ap)):=a0;have KB:H (Ab w w wr):=b0;clear n0 a0 b0;go_wp2_with fail
   refine Ax KC.out ?_;rintro e w2 ⟨rfl,g0,d0⟩;have r0:=(d0.cell (p:=Q w k I) m0).trans e0;have s0:=(Cx (a:=(Q w k I)) (d0.block _ m0)).trans k0;have j0:=Dq (P:=prog) w2 22 5 Cr D9 wr.1.size 0 l l (eI (rs (F k) T n) l) (vA _ _) (fun i hi=>by
    rw[Bt,g0.cell hi,JU _ _ _ hi]) 9 C6
   rw[show strOfNums (eI (rs (F k) T n) l)=bod n F T l k from rfl] at j0;have f0:=Dh (jI.below KO d0) k (bod n F T l k);rw[jA8 _ _ _ _ hlt] at f0;have HO:H (jI (w2.setCell (Q w k I) (bod n F T l k)) w (Q w 0 I) r r (fun i=>if i<k+1 then bod n F T l i else Ap)):=jI.congr f0.1 (fun i _=>by
    by_cases e:i=k
    .simp[e]
    .by_cases e2:i<k
     .simp[e,e2,show i<k+1 by omega]
     .simp[e,e2,show ¬ i<k+1 by omega])
   have HB:H (Ab w w (w2.setCell (Q w k I) (bod n F T l k))):=(jA KB d0).setCell (Ay _) _;generalize bod n F T l k=sv at j0 HO HB;clear f0 g0 e0 k0 KC KO KB;go_wp2
   go_roundw
   case rel=>exact⟨k+1,by omega,by go_num,HO.out,HB.out⟩
   case measure=>simp[intOf] <;> omega
  .obtain rfl:k=r:=by omega
   have HO:H (jI wr w (Q w 0 I) k k (bod n F T l)):=a0.congr (fun i hi=>A6 hi);clear a0;go_wp2
   go_ret
   exact⟨rfl,HO,b0⟩
end Go.Proofs.YtcaejlalnjnifaaGreat
