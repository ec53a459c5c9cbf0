import Derived.Test.YtcaejlalnjnifaaGreatP7
import Derived.Test.YtcaejlalnjnifaaGreatP6
import Derived.Deep.Matrix
set_option maxHeartbeats 8000000
set_option maxRecDepth 2000
open Go.Value renaming slice->V,pointer->Af,tuple->Ah,int->Ao,oneCell'->Aq
open Option renaming none->I,some->M
open Go.RowKit renaming Hid->H,Below->Ab
open Go.Addr renaming mk->Q
open Go.Obj renaming cells->J
open Go renaming World->Ad,Value->Aj,Calls->Ak,maxLen->Au
open Go.Ending renaming returned->Ae
open Go.IntKind renaming i64->Ar
open Bool renaming false->Av,true->Aw
open Go.Proofs.Tryz
open Go.ChangeShapes Go.WideShapes Go.ChangeAt Go.RowKit
namespace Go.Proofs.YtcaejlalnjnifaaGreat
def eI (f:Nat->Nat) (n:Nat):List Int:=(List.range n).map fun i=>((f i:Nat):Int)
theorem qZ (f:Nat->Nat) (n:Nat):(eI f n).length=n:=by simp[eI]
theorem jCt (f:Nat->Nat) (n i:Nat) (h:i<n):(eI f n)[i]?=M ((f i:Nat):Int):=by simp[eI,h]
theorem JR (f:Nat->Nat) (n i:Nat) (h:i<n):(eI f n).getD i 0=((f i:Nat):Int):=by simp[List.getD,jCt f n i h]
theorem jFv {f g:Nat->Nat} {n:Nat} (h:∀ i,i<n->f i=g i):eI f n=eI g n:=by
 unfold eI;apply Ek
 intro i hi;rw[h i (Fe.1 hi)]
theorem jQ2 {zs:List Int} {f:Nat->Nat} {n:Nat} (hl:zs.length=n) (h:∀ i,i<n->zs.getD i 0=((f i:Nat):Int)):zs=eI f n:=by
 apply Cn
 intro i;by_cases hi:i<n
 .have h1:=h i hi;rw[jCt f n i hi];have h2:i<zs.length:=by omega
  rw[Bj h2];simp[List.getD,Bj h2] at h1;rw[h1]
 .rw[Bb (by omega),Bb (by rw[qZ];omega)]
theorem jQ3 (f:Nat->Nat) (n k v:Nat) (d:IntKind) (h:k<n):((eI f n).map (Ao d)).set k (Ao d (v:Int))=(eI (fun i=>if i=k then v else f i) n).map (Ao d):=by
 apply Cn
 intro i;rw[Ez];by_cases hi:i<n
 .by_cases e:k=i
  .subst e;simp[eI,h]
  .simp[eI,hi,e,Ci e]
 .by_cases e:k=i
  .omega
  .rw[A5 e,Bb (by simp[qZ];omega),Bb (by simp[qZ];omega)]
theorem jFw {f:Nat->Nat} (n v:Nat) (h:∀ i,i<n->f i=v):eI f n=List.replicate n (v:Int):=by
 symm
 apply jQ2
 .simp
 .intro i hi;rw[h i hi];simp[List.getD,hi]
def jQm (w:Ad) (B:Nat) (v:Aj) (zs:List Int):Prop:=w.ownsRow B 3 1 v zs.length (zs.map (Ao Ar))
def nz (zs:List Int) (i:Nat):Nat:=if zs.getD i 0=0 then 0 else 1
def jR5 (w:Ad) (B E:Nat) (a:OA) (n cap:Nat) (zs:List Int):Prop:=jQm w B (V a n cap) zs/\n=zs.length/\n<=cap/\∀ k,(V a n cap).ownBlock=M k->B<=k/\k<E
def jFo (w w':Ad) (B E:Nat):Prop:=∃ r,w.grownBy w' r/\∀ g,r=M g->B<=g/\g<E
def jV (k n:Nat):List Int:=eI (fun i=>k+i) n
theorem jHk (k n c:Nat) (zs:List Int) (hl:zs.length=n) (hc:c<n):((jV k c++zs.drop c).map (Ao Ar)).set c (Ao Ar ((k+c:Nat):Int))=(jV k (c+1)++zs.drop (c+1)).map (Ao Ar):=by
 have hm:(jV k c).length=c:=qZ _ _;have e1:zs.drop c=(zs.drop c).headD 0::zs.drop (c+1):=by
  cases hd:zs.drop c with
  | nil=>
   have:=D8 List.length hd
   simp at this;omega
  | cons x xs=>
   have:zs.drop (c+1)=xs:=by rw[<-List.tail_drop,hd];rfl
   rw[this];rfl
 have e2:jV k (c+1)=jV k c++[((k+c:Nat):Int)]:=by
  unfold jV eI;rw[List.range_succ,Dv];rfl
 rw[e2,e1];simp only[Dv,Gz,Ha];rw[List.set_append_right _ _ (by simp[hm])];simp[hm]
theorem jL5 (a:OA) (n cap k:Nat) (w:Ad) (h:jH w a n (jV k n)) (hn:n<=1048576) (hk:k<=500000000):CS 96 #[V a n cap,(k:Int)] w (Ao Ar ((k+n:Nat):Int)):=by
 go_enter func96,ntmps96
 go_wp2
 go_loop [1,5] (fun p i=>∃ c:Nat,c<=n/\p=Ao Ar ((k+c:Nat):Int)/\i=Ao Ar c) (fun _ i=>n-(intOf i).toNat)
 case atStart=>exact⟨0,Bi _,rfl,rfl⟩
 case round=>
  obtain⟨c,hc,rfl,rfl⟩:=hrel;by_cases hlt:c<n
  .obtain⟨b,off,rfl,a0⟩:=h.2 c hlt;rw[show (jV k n).getD c 0=((k+c:Nat):Int) from JR _ _ _ hlt] at a0;have c0:(c:Int)<(n:Int):=by omega
   obtain⟨kc,b0⟩:∃ kc,k+c=kc:=⟨_,rfl⟩;rw[b0] at a0;rw[b0];go_wp2
   go_round
   case rel=>exact⟨c+1,by omega,by rw[show k+(c+1)=kc+1 by omega];go_num,by go_num⟩
   case measure=>simp[intOf] <;> omega
  .obtain rfl:c=n:=by omega
   go_wp2
   go_ret
   exact⟨rfl,rfl⟩
theorem jMn {w:Ad} {B E g n cap:Nat} {xs:List Aj} (h:w.ownsRow B E 1 (V g n cap) n xs):n<=cap:=by
 rcases h.2 with h'|⟨g',a0,b0,e,_,_,hn,_⟩
 .cases h'.1
 .cases e;exact hn
def pf (F:Nat->Nat->Nat) (N:Nat->Nat):Nat->(Nat->Nat)×Nat
 | 0=>(Gp.one,1)
 | i+1=>(Gp.cv (pf F N i).1 (F i) (pf F N i).2,Gp.tl (Gp.cv (pf F N i).1 (F i) (pf F N i).2) ((pf F N i).2+N i))
theorem jJb (a:OA) (n cap k q:Nat) (w:Ad) (h:jH w a n (jV k n)) (hn:n<=1048576) (hk:k<=500000000) (hq:k+n=q):CS 96 #[V a n cap,(k:Int)] w (q:Int):=by
 subst hq;exact jL5 a n cap k w h hn hk
def jCj (w:Ad) (B g n cap:Nat) (f:Nat->Nat):Prop:=w.ownsRow B 3 1 (V g n cap) n ((eI f n).map (Ao Ar))
theorem jCj.lt {w:Ad} {B g n cap:Nat} {f:Nat->Nat} (h:jCj w B g n cap f):B<=g/\g<w:=A0 h g rfl
theorem jIw (f:Nat->Nat) (k:Nat):eI f (k+1)=eI f k++[((f k:Nat):Int)]:=by
 unfold eI;rw[List.range_succ,Dv];rfl
theorem jCj.snoc {w:Ad} {B g k cap:Nat} {f:Nat->Nat} (h:w.ownsRow B 3 1 (V g (k+1) cap) (k+1) ((eI f k).map (Ao Ar)++[Ao Ar ((f k:Nat):Int)])):jCj w B g (k+1) cap f:=by
 unfold jCj;rw[jIw,Dv];exact h
theorem lit0 (w:Ad) (f:Nat->Nat):jCj (w.alloc (J #[] 3)) w w.1.size 0 0 f:=
 Cc w #[] 0 (Ay _) (by unfold Au;omega) rfl
def zI (z:Nat->Int) (n:Nat):List Int:=(List.range n).map z
theorem jG1 (z:Nat->Int) (n:Nat):(zI z n).length=n:=by simp[zI]
theorem jR2 (z:Nat->Int) (n i:Nat) (h:i<n):(zI z n)[i]?=M (z i):=by simp[zI,h]
theorem jCg {f g:Nat->Int} {n:Nat} (h:∀ i,i<n->f i=g i):zI f n=zI g n:=by
 unfold zI;apply Ek
 intro i hi;rw[h i (Fe.1 hi)]
theorem jR3 (z:Nat->Int) (n k:Nat) (v:Int) (d:IntKind) (h:k<n):((zI z n).map (Ao d)).set k (Ao d v)=(zI (fun i=>if i=k then v else z i) n).map (Ao d):=by
 apply Cn
 intro i;rw[Ez];by_cases hi:i<n
 .by_cases e:k=i
  .subst e;simp[zI,h]
  .simp[zI,hi,e,Ci e]
 .by_cases e:k=i
  .omega
  .rw[A5 e,Bb (by simp[jG1];omega),Bb (by simp[jG1];omega)]
theorem jNo {z:Nat->Int} (n:Nat) (v:Int) (h:∀ i,i<n->z i=v):zI z n=List.replicate n v:=by
 apply Cn
 intro i;by_cases hi:i<n
 .rw[jR2 z n i hi,h i hi];simp[hi]
 .rw[Bb (by rw[jG1];omega),Bb (by simp;omega)]
def hds (A:Nat->OA) (L C:Nat->Nat) (n:Nat):List Aj:=(List.range n).map fun i=>V (A i) (L i) (C i)
theorem ZN (A:Nat->OA) (L C:Nat->Nat) (n:Nat):(hds A L C n).length=n:=by simp[hds]
theorem ZM (A:Nat->OA) (L C:Nat->Nat) (n i:Nat) (h:i<n):(hds A L C n)[i]?=M (V (A i) (L i) (C i)):=by simp[hds,h]
theorem jPe (A:Nat->OA) (L C:Nat->Nat) (n k:Nat) (x:OA) (l c:Nat):(hds A L C n).set k (V x l c)=hds (fun i=>if i=k then x else A i) (fun i=>if i=k then l else L i) (fun i=>if i=k then c else C i) n:=by
 apply Cn
 intro i;rw[Ez];by_cases hi:i<n
 .rw[ZM (fun i=>if i=k then x else A i) _ _ _ _ hi];by_cases e:k=i
  .subst e;rw[A6 rfl,A6 (by rw[ZN];exact hi)];simp
  .rw[A5 e,ZM _ _ _ _ _ hi];simp[Ci e]
 .rw[Bb (l:=hds (fun i=>if i=k then x else A i) _ _ _) (by rw[ZN];omega)];by_cases e:k=i
  .subst e;rw[A6 rfl,A5 (by rw[ZN];omega)]
  .rw[A5 e,Bb (by rw[ZN];omega)]
theorem jCz {A A':Nat->OA} {L L' C C':Nat->Nat} {n:Nat} (h:∀ i,i<n->A i=A' i/\L i=L' i/\C i=C' i):hds A L C n=hds A' L' C' n:=by
 unfold hds;apply Ek
 intro i hi;obtain⟨h1,h2,h3⟩:=h i (Fe.1 hi);rw[h1,h2,h3]
theorem jFy (A:Nat->OA) (L C:Nat->Nat) (n:Nat):hds A L C (n+1)=hds A L C n++[V (A n) (L n) (C n)]:=by
 unfold hds;rw[List.range_succ,Dv];rfl
structure vP (k:IntKind) (T TT:Nat) (w:Ad) (B E:Nat) (a:OA) (n cap:Nat) (A:Nat->OA) (L C:Nat->Nat) (Z:Nat->Nat->Int):Prop where
 out:w.ownsRow B TT 1 (V a n cap) n (hds A L C n)
 oE:∀ x,a=M x->x.block<E
 row:∀ i,i<n->w.ownsRow B T 1 (V (A i) (L i) (C i)) (L i) ((zI (Z i) (L i)).map (Ao k))
 rE:∀ i,i<n->∀ x,A i=M x->x.block<E
 apart:∀ i j,i<n->j<n->i≠j->∀ x y,A i=M x->A j=M y->x.block≠y.block
section
variable {k:IntKind} {T TT:Nat} {w w':World} {B E:Nat} {a:Option Addr} {n cap:Nat} {A:Nat->Option Addr} {L C:Nat->Nat} {Z:Nat->Nat->Int}
theorem vP.addr (h:vP k T TT w B E a n cap A L C Z) (hn:0<n):∃ G,a=M (Q G 0 I):=by
 rcases jW h.out with ⟨_,h0,_⟩|⟨g,_,e,_⟩
 .omega
 .exact⟨g,e⟩
theorem vP.hdr {G i:Nat} (h:vP k T TT w B E G n cap A L C Z) (hi:i<n):w.cell? (Q G i I)=M (V (A i) (L i) (C i)):=by
 rw[h.out.cellAt i (by omega),ZM _ _ _ _ _ hi]
theorem vP.elt {g i j:Nat} (h:vP k T TT w B E a n cap A L C Z) (hi:i<n) (hA:A i=g) (hj:j<L i):w.cell? (Q g j I)=M (Ao k (Z i j)):=by
 have hr:=h.row i hi;rw[hA] at hr;rw[hr.cellAt j (by omega)];simp[zI,hj]
theorem vP.free {g i:Nat} (h:vP k T TT w B E a n cap A L C Z) (hi:i<n) (hA:A i=g) (j:Nat):w.frozen? (Q g j I)=Av:=by
 have hr:=h.row i hi;rw[hA] at hr;exact hr.frozenAt j
theorem vP.ofree {G:Nat} (h:vP k T TT w B E G n cap A L C Z) (j:Nat):w.frozen? (Q G j I)=Av:=h.out.frozenAt j
theorem vP.olt {G:Nat} (h:vP k T TT w B E G n cap A L C Z):B<=G/\G<w:=h.out.lt G rfl
theorem vP.glt {g i:Nat} (h:vP k T TT w B E a n cap A L C Z) (hi:i<n) (hA:A i=g):B<=g/\g<w:=by
 have hr:=h.row i hi;rw[hA] at hr;exact hr.lt g rfl
theorem vP.off (hT:T≠TT) {g G i:Nat} (h:vP k T TT w B E G n cap A L C Z) (hi:i<n) (hA:A i=g):g≠G:=by
 intro e;subst e;have hr:=h.row i hi;rw[hA] at hr;rcases jW hr with ⟨h',_⟩|⟨g1,c1,e1,_,b0,_⟩
 .cases h'
 .rcases jW h.out with ⟨h',_⟩|⟨g2,c2,e2,_,a0,_⟩
  .cases h'
  .cases e1;cases e2;rw[b0] at a0;cases a0;exact hT rfl
theorem vP.below (h:vP k T TT w B E a n cap A L C Z) (hb:Ab w w w'):vP k T TT w' B E a n cap A L C Z:=
 ⟨jF h.out hb,h.oE,fun i hi=>jF (h.row i hi) hb,h.rE,h.apart⟩
theorem vP.wide {E':Nat} (h:vP k T TT w B E a n cap A L C Z) (hE:E<=E'):vP k T TT w B E' a n cap A L C Z:=
 ⟨h.out,fun x e=>Br (h.oE x e) hE,h.row,fun i hi x e=>Br (h.rE i hi x e) hE,h.apart⟩
theorem vP.congr {A':Nat->OA} {L' C':Nat->Nat} {Z':Nat->Nat->Int} (h:vP k T TT w B E a n cap A L C Z) (e:∀ i,i<n->A i=A' i/\L i=L' i/\C i=C' i/\∀ j,j<L i->Z i j=Z' i j):vP k T TT w B E a n cap A' L' C' Z':=by
 refine⟨?_,h.oE,fun i hi=>?_,fun i hi x ex=>?_,fun i j hi hj a0 x y ex ey=>?_⟩
 .rw[<-jCz (fun i hi=>⟨(e i hi).1,(e i hi).2.1,(e i hi).2.2.1⟩)];exact h.out
 .obtain⟨e1,e2,e3,e4⟩:=e i hi;have hr:=h.row i hi;rw[jCg e4,e1,e2,e3] at hr;exact hr
 .exact h.rE i hi x ((e i hi).1.trans ex)
 .exact h.apart i j hi hj a0 x y ((e i hi).1.trans ex) ((e j hj).1.trans ey)
theorem vP.kept {b:Nat} (h:vP k T TT w B E a n cap A L C Z) (hg:w.grownBy w' (M b)) (ho:∀ x,a=M x->x.block≠b) (hr:∀ i,i<n->∀ x,A i=M x->x.block≠b):vP k T TT w' B E a n cap A L C Z:=
 ⟨jL h.out hg ho,h.oE,fun i hi=>jL (h.row i hi) hg (hr i hi),h.rE,h.apart⟩
theorem vP.keptE {b:Nat} (h:vP k T TT w B E a n cap A L C Z) (hg:w.grownBy w' (M b)) (hb:E<=b):vP k T TT w' B E a n cap A L C Z:=
 h.kept hg (fun x e=>by have:=h.oE x e;omega) (fun i hi x e=>by have:=h.rE i hi x e;omega)
theorem vP.setElt (hT:T≠TT) {g i j:Nat} (h:vP k T TT w B E a n cap A L C Z) (hi:i<n) (hA:A i=g) (hj:j<L i) (v:Int):vP k T TT (w.setCell (Q g j I) (Ao k v)) B E a n cap A L C (fun p q=>if p=i/\q=j then v else Z p q)/\w.grownBy (w.setCell (Q g j I) (Ao k v)) (M g):=by
 have hg:=jN w g j (Ao k v);obtain⟨G,rfl⟩:=h.addr (by omega);refine⟨⟨jL h.out hg (fun x e=>by cases e;exact(h.off hT hi hA).symm),h.oE,fun p hp=>?_,h.rE,h.apart⟩,hg⟩;by_cases e:p=i
 .subst e;have hr:=h.row p hp;rw[hA] at hr |-;have h1:=(hr.stored j (Ao k v)).1;rw[jR3 _ _ _ _ _ hj] at h1;rw[jCg (g:=fun q=>if q=j then v else Z p q) (fun q _=>by simp)];exact h1
 .have hr:=jL (h.row p hp) hg (fun x ex=>h.apart p i hp hi e x _ ex hA);rw[jCg (f:=fun q=>if p=i/\q=j then v else Z p q) (g:=Z p) (fun q _=>by simp[e])];exact hr
theorem vP.setRow (hT:T≠TT) {G g i l c:Nat} {z:Nat->Int} (h:vP k T TT w B E G n cap A L C Z) (hi:i<n) (a0:w.ownsRow B T 1 (V g l c) l ((zI z l).map (Ao k))) (hE:g<E) (b0:∀ j,j<n->j≠i->∀ x,A j=M x->x.block≠g):vP k T TT (w.setCell (Q G i I) (V g l c)) B E G n cap (fun j=>if j=i then M (Q g 0 I) else A j) (fun j=>if j=i then l else L j) (fun j=>if j=i then c else C j) (fun j=>if j=i then z else Z j)/\w.grownBy (w.setCell (Q G i I) (V g l c)) (M G):=by
 have hg:=jN w G i (V g l c);have e0:g≠G:=by
  intro e;subst e;rcases jW a0 with ⟨h',_⟩|⟨g1,c1,e1,_,d0,_⟩
  .cases h'
  .rcases jW h.out with ⟨h',_⟩|⟨g2,c2,e2,_,c0,_⟩
   .cases h'
   .cases e1;cases e2;rw[d0] at c0;cases c0;exact hT rfl
 refine⟨⟨?_,h.oE,fun p hp=>?_,fun p hp x ex=>?_,fun p q hp hq f0 x y ex ey=>?_⟩,hg⟩
 .have h1:=(h.out.stored i (V g l c)).1;rw[jPe] at h1;exact h1
 .by_cases e:p=i
  .subst e;simp only[A6];exact jL a0 hg (fun x ex=>by cases ex;exact e0)
  .simp only[A5 e];refine jL (h.row p hp) hg (fun x ex=>?_);have hr:=h.row p hp;rw[ex] at hr;rcases jW hr with ⟨h',_⟩|⟨g1,c1,e1,_⟩
   .cases h'
   .cases e1;exact h.off hT hp ex
 .by_cases e:p=i
  .simp only[A6 e] at ex;cases ex;exact hE
  .simp only[A5 e] at ex;exact h.rE p hp x ex
 .by_cases e:p=i
  .simp only[A6 e] at ex;cases ex;simp only[A5 (show q≠i by omega)] at ey;exact(b0 q hq (by omega) y ey).symm
  .simp only[A5 e] at ex;by_cases e2:q=i
   .simp only[A6 e2] at ey;cases ey;exact b0 p hp e x ex
   .simp only[A5 e2] at ey;exact h.apart p q hp hq f0 x y ex ey
theorem vP.push (hT:T≠TT) {E':Nat} {a':OA} {a0 l c:Nat} {x:OA} {z:Nat->Int} (h:vP k T TT w B E a n cap A L C Z) (hg:w.grownBy w' (V a n cap).ownBlock) (b0:w'.ownsRow B TT 1 (V a' (n+1) a0) (n+1) (hds A L C n++[V x l c])) (g0:w'.1.size<=E') (hE:E<=E') (c0:w.ownsRow B T 1 (V x l c) l ((zI z l).map (Ao k))) (d0:∀ j,j<n->∀ y u,A j=M y->x=M u->y.block≠u.block):vP k T TT w' B E' a' (n+1) a0 (fun j=>if j=n then x else A j) (fun j=>if j=n then l else L j) (fun j=>if j=n then c else C j) (fun j=>if j=n then z else Z j):=by
 have f0:∀ (u:OA) (l c:Nat) (xs:List Aj),w.ownsRow B T 1 (V u l c) l xs->w'.ownsRow B T 1 (V u l c) l xs:=by
  intro u l c xs hr;refine World.ownsRow.kept hr hg ?_;rcases jW hr with ⟨rfl,_⟩|⟨g1,c1,rfl,_,h0,_⟩
  .exact .inl rfl
  .right
   rcases jW h.out with ⟨rfl,_⟩|⟨g2,c2,rfl,_,e0,_⟩
   .simp[Value.ownBlock]
   .simp only[Value.ownBlock,ne_eq,Option.some.injEq];intro e;subst e;rw[h0] at e0;cases e0;exact hT rfl
 refine⟨?_,fun y e=>?_,fun i hi=>?_,fun i hi y e=>?_,fun i j hi hj i0 y u e1 e2=>?_⟩
 .rw[jFy];simp only[A6];rw[<-jCz (A:=A) (L:=L) (C:=C) (fun i hi=>by simp[show i≠n by omega])];exact b0
 .subst e;exact Br (b0.lt y.block rfl).2 g0
 .by_cases e:i=n
  .subst e;simp only[A6];exact f0 _ _ _ _ c0
  .simp only[A5 e];exact f0 _ _ _ _ (h.row i (by omega))
 .by_cases e':i=n
  .subst e';simp only[A6] at e;subst e;exact Br (Br (c0.lt y.block rfl).2 hg.size) g0
  .simp only[A5 e'] at e;exact Br (h.rE i (by omega) y e) hE
 .by_cases e:i=n
  .subst e;simp only[A6] at e1;simp only[A5 (show j≠i by omega)] at e2;exact(d0 j (by omega) u y e2 e1).symm
  .simp only[A5 e] at e1;by_cases e':j=n
   .subst e';simp only[A6] at e2;exact d0 i (by omega) y u e1 e2
   .simp only[A5 e'] at e2;exact h.apart i j (by omega) (by omega) i0 y u e1 e2
theorem vP.nil (k:IntKind) (T TT:Nat) (w:Ad) (B E:Nat) (A:Nat->OA) (L C:Nat->Nat) (Z:Nat->Nat->Int):vP k T TT w B E I 0 0 A L C Z:=
 ⟨Fp w B _ _,fun x e=>(by cases e),fun i hi=>by omega,fun i hi=>by omega,fun i j hi=>by omega⟩
theorem vP.zero {G c:Nat} (k:IntKind) (T TT:Nat) (w:Ad) (B E:Nat) (A:Nat->OA) (L C:Nat->Nat) (Z:Nat->Nat->Int) (h:w.ownsRow B TT 1 (V G 0 c) 0 []) (hE:G<E):vP k T TT w B E G 0 c A L C Z:=
 ⟨h,fun x e=>by cases e;exact hE,fun i hi=>by omega,fun i hi=>by omega,fun i j hi=>by omega⟩
theorem vP.made {G:Nat} (h:w.ownsRow B TT 1 (V G n n) n (List.replicate n (V I 0 0))) (hE:G<E) (Z:Nat->Nat->Int):vP k T TT w B E G n n (fun _=>I) (fun _=>0) (fun _=>0) Z:=by
 refine⟨?_,fun x e=>by cases e;exact hE,fun i _=>Fp w B _ _,fun i _ x e=>(by cases e),fun i j _ _ _ x y e=>(by cases e)⟩;have e:hds (fun _=>I) (fun _=>0) (fun _=>0) n=List.replicate n (V I 0 0):=by
  apply Cn
  intro i;by_cases hi:i<n
  .rw[ZM _ _ _ _ _ hi];simp[hi]
  .rw[Bb (by rw[ZN];omega),Bb (by simp;omega)]
 rw[e];exact h
end
def ZH (w:Ad) (a:OA) (n:Nat) (L:Nat->Nat) (Z:Nat->Nat->Int):Prop:=
 ∀ i,i<n->∃ b off ai ci,a=M (Q b off I)/\w.cell? (Q b (off+i) I)=M (V ai (L i) ci)/\jH w ai (L i) (zI (Z i) (L i))
theorem ZH.below {w w':Ad} {a:OA} {n:Nat} {L:Nat->Nat} {Z:Nat->Nat->Int} (h:ZH w a n L Z) (hb:Ab w w w'):ZH w' a n L Z:=fun i hi=>by
 obtain⟨b,off,ai,ci,e,hc,hr⟩:=h i hi;exact⟨b,off,ai,ci,e,(hb.cell (p:=Q b (off+i) I) (A7 hc)).trans hc,hr.below hb⟩
theorem jMm {w:Ad} {B T n c:Nat} {a:OA} {z:Nat->Int} (h:w.ownsRow B T 1 (V a n c) n ((zI z n).map (Ao Ar))):jH w a n (zI z n):=by
 rcases jW h with ⟨rfl,rfl,rfl⟩|⟨g,a0,rfl,_⟩
 .exact⟨jG1 _ _,fun i hi=>by omega⟩
 .exact ownsRow.ints h
theorem vP.at {T TT:Nat} {w:Ad} {B E:Nat} {a:OA} {n cap:Nat} {A:Nat->OA} {L C:Nat->Nat} {Z:Nat->Nat->Int} (h:vP Ar T TT w B E a n cap A L C Z):ZH w a n L Z:=by
 intro i hi;obtain⟨G,rfl⟩:=h.addr (by omega);exact⟨G,0,A i,C i,rfl,by rw[Bq];exact h.hdr hi,jMm (h.row i hi)⟩
end Go.Proofs.YtcaejlalnjnifaaGreat
namespace Go.Proofs.YtcaejlalnjnifaaGreat
open Go.Proofs.YtcaejlalnjnifaaGreat.Gp (m m_lt m_comm zero_m m_nat xor_can xor_eq xor_lt)
def txt (f:Nat->Nat) (l:Nat):BA:=strOfNums (eI f l)
theorem zM (f:Nat->Nat) (l:Nat):(txt f l).size=l:=by unfold txt;rw[Fx,qZ]
theorem jFh {f:Nat->Nat} {l k:Nat} (hk:k<l) (hf:f k<256):tat (txt f l) k=f k:=by
 unfold txt;rw[jFg,JR _ _ _ hk,Cz,Dw hf]
theorem jD8 {f g:Nat->Nat} {l:Nat} (h:∀ i,i<l->f i=g i):txt f l=txt g l:=by unfold txt;rw[jFv h]
theorem jRz (s:BA):txt (tat s) s.size=s:=by
 refine jP9 (zM _ _) fun k=>?_
 by_cases hk:k<s.size
 .exact jFh hk (JA s k)
 .rw[zL s k hk,zL _ k (by rw[zM];exact hk)]
theorem jOs {s:BA} {f:Nat->Nat} {l:Nat} (hs:s.size=l) (h:∀ k,k<l->tat s k=f k):s=txt f l:=by
 rw[<-jRz s,hs];exact jD8 h
def XA (s k:Nat):Nat:=(s+2+k-1) / k
theorem jEg {s k:Nat} (hk:1<=k):s+2<=k*XA s k:=by
 unfold XA;have:=Nat.div_add_mod (s+2+k-1) k
 have h2:=E7 (s+2+k-1) (show k>0 by omega);omega
theorem jFt {s k:Nat} (hk:1<=k):1<=XA s k:=by
 have:=jEg (s:=s) hk
 rcases Fz (XA s k) with h|h
 .rw[h] at this;omega
 .exact h
theorem ZI {s k:Nat} (hk:1<=k):XA s k<=s+2:=by
 unfold XA;rw[Nat.div_le_iff_le_mul_add_pred (by omega)];have:s+2<=k*(s+2):=Nat.le_mul_of_pos_left _ (by omega)
 omega
def frm (s:BA) (q:Nat):Nat:=if q=0 then s.size / 256 else if q=1 then s.size % 256 else tat s (q-2)
theorem jNu {s:BA} (hs:s.size<65536) (q:Nat):frm s q<256:=by
 unfold frm;split
 .omega
 .split
  .omega
  .exact JA _ _
theorem jO8 {s:BA} {q:Nat} (h:s.size+2<=q):frm s q=0:=by
 unfold frm;rw[A5 (by omega),A5 (by omega),zL _ _ (by omega)]
def pcs (W:Nat->Nat) (l i p:Nat):Nat:=W (i*l+p)
def bod (k:Nat) (F T:Nat->Nat->Nat) (l i:Nat):BA:=txt (Gm.mp k F T i) l
theorem jIo {k:Nat} {F F' T T':Nat->Nat->Nat} {l i:Nat} (h1:∀ t,t<k->F i t=F' i t) (h2:∀ t p,t<k->p<l->T t p=T' t p):bod k F T l i=bod k F' T' l i:=
 jD8 (fun p hp=>Gm.mp_congr h1 (fun t ht=>h2 t p ht hp))
def enc (s:BA) (k i p:Nat):Nat:=pcs (frm s) (XA s.size k) i p
def jCa (W:Nat->Nat) (N k:Nat):Prop:=2<=N/\W 0*256+W 1<=2000/\N=k*XA (W 0*256+W 1) k/\∀ q,W 0*256+W 1+2<=q->q<N->W q=0
def jOr (W:Nat->Nat):BA:=txt (fun q=>W (q+2)) (W 0*256+W 1)
end Go.Proofs.YtcaejlalnjnifaaGreat
namespace Go.Proofs.YtcaejlalnjnifaaGreat
theorem Tryz.infoInts:(Tryz.prog.info? 40).map (fun i=>(i.zero,i.size,i.bytes))=M (M (V I 0 0),1,24):=by kernel_rfl
abbrev zO (w:Ad) (B E:Nat) (a:OA) (n cap:Nat) (A:Nat->OA) (L C:Nat->Nat) (Z:Nat->Nat->Int):Prop:=vP Ar 3 40 w B E a n cap A L C Z
theorem jSr:(3:Nat)≠40:=by decide
def jAl (n:Int):Bool:=decide (1<=n/\n<=16)
theorem jM5 (n:Nat):jAl (n:Int)=decide (1<=n/\n<=16):=by
 unfold jAl;congr 1
 simp only[eq_iff_iff];omega
theorem xB (n:Int) (w:Ad):CS 233 #[n] w (jAl n):=by
 go_enter func233,ntmps233
 go_wp2
 .go_ret
  exact⟨jQ (by simp[jAl, *]),rfl⟩
 .go_ret
  exact⟨jQ (by simp[jAl];omega),rfl⟩
theorem jIa (i j:Nat) (w:Ad):CS 236 #[(i:Int),(j:Int)] w (Ao .u8 ((Gm.dl i j:Nat):Int)):=by
 by_cases h:i=j
 .subst h;rw[Gm.dl_self];go_enter func236,ntmps236
  go_wp2
  go_ret
  exact⟨rfl,rfl⟩
 .have h':((i:Int)==(j:Int))=Av:=by simp;omega
  rw[Gm.dl_ne h];go_enter func236,ntmps236
  go_wp2
  go_ret
  exact⟨rfl,rfl⟩
def jFl (g:Nat) (lb:Array Aj) (r c:Nat) (F:Nat->Nat->Nat) (w:Ad):Prop:=
 ∀ (W:Ad) (i j:Nat),Ab w w W->i<r->j<c->CB g (#[Ao Ar (i:Int),Ao Ar (j:Int)]++lb) W (Ao .u8 ((F i j:Nat):Int))
theorem jG9 (g:Nat) (lb:Array Aj) (eg:∀ args w,(callFunc g args).run prog w=.ok (.enter g args) w) (r c:Nat) (F:Nat->Nat->Nat) (w:Ad) (hp:jFl g lb r c F w) (hF:∀ i j,F i j<256) (hr:r<=1048576) (hc:c<=1048576):Ak prog 234 #[(r:Int),(c:Int),.func (.func g) #[] lb] w fun e w'=>e=Ae (V (Q w.1.size 0 I) r r)/\(∃ A,zO w' w.1.size w'.1.size (Q w.1.size 0 I) r r A (fun _=>c) (fun _=>c) (fun i j=>((F i j:Nat):Int)))/\Ab w.1.size w w':=by
 obtain⟨i0,hi,i1,j1,k1⟩:=Ch Tryz.infoInts;obtain⟨j0,hj,r1,s1,t1⟩:=Ch Tryz.infoInt;go_enter func234,ntmps234
 go_wp2_with (at_make;refine Cx _ rfl _ _ 200 rfl w.1.size 40 i0 (V I 0 0) 1 underlying200 hi i1 j1 Ar Ar _ _ r rfl rfl rfl rfl (by rw[k1];omega) (by unfold Au;omega) (Ay _) ?_;intro w1 b0 n0)
 have a1:Ab w.1.size w w1:=(Az _ _).grown n0 (Ay _) (by simp);have s0:=(A0 b0 _ rfl).2;have f1:zO w1 w.1.size w1.1.size (Q w.1.size 0 I) r r (fun _=>I) (fun i=>if i<0 then c else 0) (fun i=>if i<0 then c else 0) (fun i j=>((F i j:Nat):Int)):=
  (vP.made (by simpa [Value.cells,Dp] using b0) s0 _).congr (fun i _=>⟨rfl,by simp,by simp,fun j hj=>rfl⟩)
 have KO:H _:=f1;have KB:H (Ab w.1.size w w1):=a1;clear b0 n0 s0 f1 a1 hi i1 j1 k1;go_loopw [14] (fun i wr=>∃ k A,k<=r/\i=Ao Ar ((k:Nat):Int)/\zO wr w.1.size wr.1.size (Q w.1.size 0 I) r r A (fun i=>if i<k then c else 0) (fun i=>if i<k then c else 0) (fun i j=>((F i j:Nat):Int))/\(∀ i,k<=i->A i=I)/\Ab w.1.size w wr) (fun i _=>r-(intOf i).toNat)
 case atStart=>exact⟨0,_,Bi _,rfl,KO.out,fun _ _=>rfl,KB.out⟩
 case round=>
  obtain⟨k,A,hk,rfl,b0,t0,a0⟩:=hrel;clear KO KB;by_cases hlt:k<r
  .have y1:(k:Int)<(r:Int):=by omega
   have KA:H _:=t0;have KM:H (zO wr w.1.size wr.1.size (Q w.1.size 0 I) r r A (fun i=>if i<k then c else 0) (fun i=>if i<k then c else 0) (fun i j=>((F i j:Nat):Int))):=b0;have KB:H (Ab w.1.size w wr):=a0;have p1:=a0.size;have k0:=b0.olt.2;have e0:=b0.hdr hlt;have r0:=b0.ofree k;simp only[Fq,Dj] at e0;clear t0 b0 a0;go_wp2_with (at_make;refine Cx _ rfl _ _ 40 rfl wr.1.size 3 j0 () 1 Ec hj r1 s1 Ar Ar _ _ c rfl rfl rfl rfl (by rw[t1];omega) (by unfold Au;omega) (Ay _) ?_;intro w2 o0 f0;have g0:Ab wr.1.size wr w2:=(Az _ _).grown f0 (Ay _) (by simp);have x0:=(g0.cell (p:=Q w.1.size k I) k0).trans e0;have c1:=(Cw (a:=(Q w.1.size k I)) (g0.block _ k0)).trans r0)
   have w0:w2.ownsRow wr.1.size 3 1 (V (Q wr.1.size 0 I) c c) c ((zI (fun _=>0) c).map (Ao Ar)):=by
    rw[jNo c 0 (fun _ _=>rfl)];simpa [Value.cells,Dp] using o0
   have m0:=((KM.out.below g0).wide g0.size).setRow jSr hlt (jX w0 p1) (A0 w0 _ rfl).2 (fun j hj _ x ex=>by have:=KM.out.rE j hj x ex;exact Nat.ne_of_lt this);obtain⟨A',p0⟩:=nmH (fun i=>if i=k then M (Q wr.1.size 0 I) else A i);obtain⟨g1,o1⟩:∃ g1,wr.1.size=g1:=⟨_,rfl⟩;rw[o1] at m0 p0 |-;obtain⟨w3,y0⟩:∃ w3,w2.setCell (Q w.1.size k I) (V (Q g1 0 I) c c)=w3:=⟨_,rfl⟩;rw[y0] at m0 |-;have c0:A' k=M (Q g1 0 I):=by rw[p0.out];simp
   have KS:H (zO w3 w.1.size w3.1.size (Q w.1.size 0 I) r r A' (fun i=>if i<k+1 then c else 0) (fun i=>if i<k+1 then c else 0) (fun i j=>if i=k/\0<=j then 0 else ((F i j:Nat):Int))):=
    (m0.1.wide m0.2.size).congr (fun i _=>by
     rw[p0.out];by_cases e:i=k
     .subst e;simp
     .by_cases e2:i<k
      .simp[e,e2,show i<k+1 by omega]
      .simp[e,e2,show ¬ i<k+1 by omega])
   have KB2:H (Ab w.1.size w w3):=by
    rw[<-y0];exact(jA KB.out g0).setCell (Ay _) _
   clear m0 y0 w0 o0 f0 g0 x0 c1 e0 r0 KM KB k0;go_loopw [27] (fun j wr=>∃ q:Nat,q<=c/\j=Ao Ar (q:Int)/\zO wr w.1.size wr.1.size (Q w.1.size 0 I) r r A' (fun i=>if i<k+1 then c else 0) (fun i=>if i<k+1 then c else 0) (fun i j=>if i=k/\q<=j then 0 else ((F i j:Nat):Int))/\Ab w.1.size w wr) (fun j _=>c-(intOf j).toNat)
   case atStart=>exact⟨0,Bi _,rfl,KS.out,KB2.out⟩
   case round=>
    obtain⟨q,hq,rfl,hM,a0⟩:=hrel;clear KS KB2;by_cases hqc:q<c
    .have z1:(q:Int)<(c:Int):=by omega
     have v0:=hM.hdr hlt;rw[c0] at v0;simp only[Gj,C0] at v0;have b1:=hM.elt (j:=q) hlt c0 (by simp only[Gj,C0];exact hqc);simp only[Ay,and_self,C0] at b1;have d0:=hp wr.drew k q ⟨a0.os,a0.tape,a0.output,a0.size,a0.block⟩ hlt hqc;have z0:=hF k q;have m1:=hM.olt.2;have e1:=(hM.glt hlt c0).2;have KM:H (zO wr w.1.size wr.1.size (Q w.1.size 0 I) r r A' (fun i=>if i<k+1 then c else 0) (fun i=>if i<k+1 then c else 0) (fun i j=>if i=k/\q<=j then 0 else ((F i j:Nat):Int))):=hM;have KP:H (jFl g lb r c F w):=hp;have KF:H (∀ i j,F i j<256):=hF;have KB:H (Ab w.1.size w wr):=a0;have n1:=hM.free hlt c0 q;clear hM hp hF a0;generalize hX:F k q=X at d0 z0;have KX:H (F k q=X):=hX;clear hX;go_wp2_with fail
     go_region_with ((go_at_fn g;refine Ax d0 ?_;rintro e w5 ⟨rfl,q0⟩;have h0:=jC q0;clear q0;have x1:=(h0.cell (p:=Q w.1.size k I) m1).trans v0;have u1:=(h0.cell (p:=Q g1 q I) e1).trans b1;have v1:=(Cw (a:=(Q g1 q I)) (h0.block _ e1)).trans n1))
     all_goals
      have q1:IntKind.i64.wrap (X:Int)=(X:Int):=by rw[A8];omega
      rw[q1];have u0:=((KM.out.below h0).wide h0.size).setElt jSr (j:=q) hlt c0 (by simp only[Gj,C0];exact hqc) (X:Int);have HS:H (zO (w5.setCell (Q g1 q I) (X:Int)) w.1.size (w5.setCell (Q g1 q I) (X:Int)).1.size (Q w.1.size 0 I) r r A' (fun i=>if i<k+1 then c else 0) (fun i=>if i<k+1 then c else 0) (fun i j=>if i=k/\q+1<=j then 0 else ((F i j:Nat):Int))):=
       (u0.1.wide u0.2.size).congr (fun i _=>⟨rfl,rfl,rfl,fun j _=>by
        by_cases e:i=k
        .subst e;by_cases e2:j=q
         .subst e2;rw[A6 ⟨rfl,rfl⟩,A5 (by omega),KX.out]
         .rw[A5 (by omega)];by_cases e3:q<=j
          .rw[A6 ⟨rfl,e3⟩,A6 ⟨rfl,by omega⟩]
          .rw[A5 (by omega),A5 (by omega)]
        .rw[A5 (by omega),A5 (by omega),A5 (by omega)]⟩)
      have HB:H (Ab w.1.size w (w5.setCell (Q g1 q I) (X:Int))):=(jA KB.out h0).setCell (show w.1.size<=g1 by omega) _;clear u0 d0;go_wp2
      go_roundw
      case rel=>exact⟨q+1,by omega,by go_num,HS.out,HB.out⟩
      case measure=>simp[intOf] <;> omega
    .obtain rfl:q=c:=by omega
     have KM:H (zO wr w.1.size wr.1.size (Q w.1.size 0 I) r r A' (fun i=>if i<k+1 then q else 0) (fun i=>if i<k+1 then q else 0) (fun i j=>if i=k/\q<=j then 0 else ((F i j:Nat):Int))):=hM;have KP:H (jFl g lb r q F w):=hp;clear hM hp;go_wp2
     go_roundw
     case rel=>exact⟨k+1,A',by omega,by go_num,KM.out.congr (fun i hi=>⟨rfl,rfl,rfl,fun j hj=>by
      rw[A5];intro h;by_cases e:i<k+1
      .rw[A6 e] at hj;omega
      .omega⟩),fun i hi=>by rw[p0.out];simp[show i≠k by omega,KA.out i (by omega)],a0⟩
     case measure=>simp[intOf] <;> omega
  .obtain rfl:k=r:=by omega
   have KM:H _:=b0;clear b0 t0 hp;go_wp2
   go_ret
   exact⟨rfl,⟨A,KM.out.congr (fun i hi=>⟨rfl,A6 hi,A6 hi,fun j _=>rfl⟩)⟩,a0⟩
def jFn (w w':Ad) (v:Aj) (r c:Nat) (F:Nat->Nat->Nat):Prop:=∃ a cap A C,v=V a r cap/\zO w' w w'.1.size a r cap A (fun _=>c) C (fun i j=>((F i j:Nat):Int))
theorem jFn.none (w w':Ad) (c:Nat) (F:Nat->Nat->Nat):jFn w w' (V I 0 0) 0 c F:=⟨_,_,fun _=>.none,fun _=>0,rfl,vP.nil _ _ _ _ _ _ _ _ _ _⟩
theorem jFn.mk {w w':Ad} {a:OA} {r cap c:Nat} {A:Nat->OA} {C:Nat->Nat} {F:Nat->Nat->Nat} {B:Nat} (h:zO w' B w' a r cap A (fun _=>c) C (fun i j=>((F i j:Nat):Int))) (hB:w.1.size<=B):jFn w w' (V a r cap) r c F:=
 ⟨a,cap,A,C,rfl,⟨jX h.out hB,h.oE,fun i hi=>jX (h.row i hi) hB,h.rE,h.apart⟩⟩
theorem jFd (kb k i j:Nat) (w:Ad) (hk:w.cell? kb=M (Ao Ar (k:Int))) (hi:i<256) (hj:j<256):CB 235 #[(i:Int),(j:Int),Af kb] w (Ao .u8 ((Gm.sprd k i j:Nat):Int)):=by
 by_cases h:i<k
 .have h':(i:Int)<(k:Int):=by omega
  have HS:H (Gm.sprd k i j=Gm.dl i j):=by show _=_;unfold Gm.sprd;rw[A6 h]
  go_enter func235,ntmps235
  go_wp2_with (go_at_call 236;refine(jIa i j _).mono ?_;rintro e w' ⟨rfl,hw⟩;obtain rfl:=hw.symm)
  go_ret
  exact⟨by rw[HS.out] <;> rfl,Az _ _⟩
 .have h':¬ (i:Int)<(k:Int):=by omega
  have HS:H (Gm.sprd k i j=Gf.inv (i ^^^ j)):=by show _=_;unfold Gm.sprd;rw[A5 h]
  have hx:=Gf.xor_lt hi hj;go_enter func235,ntmps235
  go_wp2_with (first|(go_at_call 237;refine(jGb i j _ hi hj).mono ?_;rintro e w' ⟨rfl,hw⟩;obtain rfl:=hw.symm)|(go_at_call 238;refine(jEn (i ^^^ j) _ hx).mono ?_;rintro e w2 ⟨rfl,hb2⟩))
  go_ret
  exact⟨by rw[HS.out] <;> rfl,hb2⟩
theorem jFe:∀ args w,(callFunc 235 args).run prog w=.ok (.enter 235 args) w:=enters_of func235 (by kernel_rfl) rfl
theorem jH8 (kb k r c:Nat) (w:Ad) (hk:w.cell? kb=M (Ao Ar (k:Int))) (hr:r<=256) (hc:c<=256):jFl 235 #[Af kb] r c (Gm.sprd k) w:=fun W i j hb hi hj=>
 jFd kb k i j W ((hb.cell (p:=kb) (A7 hk)).trans hk) (by omega) (by omega)
theorem jSb (w:Ad) (v:Aj) (t:TypeId):(w.alloc (J #[v] t)).cell? (Q w 0 I)=M v:=cell_of_one (Co w _)
def qU (k n:Int):Bool:=jAl n&&decide (1<=k/\k<=n)
def jBb (k n:Int):Nat:=if qU k n=Aw then n.toNat else 0
theorem jH9 (k n:Int) (w:Ad):Ak prog 220 #[k,n] w fun e w'=>∃ v,e=Ae (Ah #[v,(qU k n)])/\jFn w w' v (jBb k n) k.toNat (Gm.sprd k.toNat)/\Ab w w w':=by
 have e0:=jSb w k 3;have b0:Ab w w (w.alloc (J #[k] 3)):=(Az _ _).alloc (Ay _) _;have i0:(w.alloc (J #[k] 3)).1.size=w.1.size+1:=by simp
 by_cases h1:jAl n=Aw
 .by_cases h2:1<=k
  .by_cases h3:k<=n
   .have hr:1<=n/\n<=16:=by simpa [jAl] using h1
    have a0:qU k n=Aw:=by unfold qU;rw[h1];simp;omega
    obtain⟨N,rfl⟩:∃ N:Nat,n=(N:Int):=⟨n.toNat,by omega⟩;obtain⟨K,rfl⟩:∃ K:Nat,k=(K:Int):=⟨k.toNat,by omega⟩;have hN:jBb (K:Int) (N:Int)=N:=by unfold jBb;rw[A6 a0];simp
    rw[hN,a0,Cz];have KF:H _:=jG9 235 #[Af (Q w 0 I)] jFe N K (Gm.sprd K) _ (jH8 w K N K _ e0 (by omega) (by omega)) (Gm.sprd_byt K) (by omega) (by omega);have d0:¬ (K:Int)<1:=by omega
    have g0:¬ (K:Int)>(N:Int):=by omega
    obtain⟨w1,c0⟩:∃ w1,w.alloc (J #[(K:Int)] 3)=w1:=⟨_,rfl⟩;have KW:=hd c0;rw[c0] at KF b0 e0;clear c0 hN a0 i0;go_enter func220,ntmps220
    go_wp2_with fail
    rw[KW.out];refine(xB _ _).mono ?_;rintro e w' ⟨rfl,hw⟩;obtain rfl:=hw.symm;go_wp2_with fail
    refine Ax KF.out ?_;rintro e w2 ⟨rfl,⟨A,hM⟩,h0⟩;have KM:H _:=hM;clear hM;go_wp2
    go_ret2
    exact⟨_,rfl,jFn.mk KM b0.size,jA b0 h0⟩
   .have a0:qU k n=Av:=by unfold qU;simp[h3]
    have hN:jBb k n=0:=by unfold jBb;rw[A5 (by rw[a0];simp)]
    rw[hN,a0];have d0:¬ k<1:=by omega
    have g0:k>n:=by omega
    clear a0 hN;go_enter func220,ntmps220
    go_wp2_with fail
    refine(xB _ _).mono ?_;rintro e w' ⟨rfl,hw⟩;obtain rfl:=hw.symm;go_wp2
    go_ret2
    exact⟨_,rfl,jFn.none _ _ _ _,b0⟩
  .have a0:qU k n=Av:=by unfold qU;simp[h2]
   have hN:jBb k n=0:=by unfold jBb;rw[A5 (by rw[a0];simp)]
   rw[hN,a0];have d0:k<1:=by omega
   clear a0 hN;go_enter func220,ntmps220
   go_wp2_with fail
   refine(xB _ _).mono ?_;rintro e w' ⟨rfl,hw⟩;obtain rfl:=hw.symm;go_wp2
   go_ret2
   exact⟨_,rfl,jFn.none _ _ _ _,b0⟩
 .have f0:jAl n=Av:=by simpa using h1
  have a0:qU k n=Av:=by unfold qU;simp[f0]
  have hN:jBb k n=0:=by unfold jBb;rw[A5 (by rw[a0];simp)]
  rw[hN,a0];clear a0 hN;go_enter func220,ntmps220
  go_wp2_with fail
  refine(xB _ _).mono ?_;rintro e w' ⟨rfl,hw⟩;obtain rfl:=hw.symm;go_wp2
  go_ret2
  exact⟨_,rfl,jFn.none _ _ _ _,b0⟩
theorem zO.pushed {wr w2:Ad} {B b0 G k cap g2 e0 gr W c0:Nat} {A:Nat->OA} {C:Nat->Nat} {F:Nat->Nat->Nat} (o:Obj) (hM:zO wr B b0 G k cap A (fun _=>W) C (fun i j=>((F i j:Nat):Int))) (hb:B<=b0) (hr:jCj wr b0 gr W c0 (F k)) (a0:(wr.alloc o).grownBy w2 (M G)) (g0:w2.ownsRow B 40 1 (V g2 (k+1) e0) (k+1) (hds A (fun _=>W) C k++[V gr W c0])):∃ A' C',zO w2 B w2 g2 (k+1) e0 A' (fun _=>W) C' (fun i j=>((F i j:Nat):Int)):=by
 have d0:Ab wr wr (wr.alloc o):=(Az _ _).alloc (Ay _) _;have i0:=hM.below d0;have j0:(wr.alloc o).ownsRow B 3 1 (V gr W c0) W ((zI (fun j=>((F k j:Nat):Int)) W).map (Ao Ar)):=jX (jF hr d0) hb;have f0:=hr.lt.1;refine⟨_,_,(vP.push jSr i0 a0 g0 (Ay _) ?_ j0 (fun j hj y u ey eu=>?_)).congr (fun i _=>⟨rfl,by split <;> rfl,rfl,fun j _=>by by_cases e:i=k;subst e;simp;simp[e]⟩)⟩
 .by_cases h0:G<b0
  .exact Bx (Hc (Nat.lt_of_le_of_lt f0 hr.lt.2)) (Bx d0.size a0.size)
  .exact Bx (Hc (Nat.lt_of_le_of_lt f0 hr.lt.2)) (Bx d0.size a0.size)
 .cases eu;have:=hM.rE j hj y ey
  exact Nat.ne_of_lt (Br this f0)
theorem zO.rowed {wr w2:Ad} {B b0 gr:Nat} {a:OA} {k cap W:Nat} {A:Nat->OA} {C:Nat->Nat} {F:Nat->Nat->Nat} (o:Obj) (hM:zO wr B b0 a k cap A (fun _=>W) C (fun i j=>((F i j:Nat):Int))) (c0:b0<=gr) (a0:(wr.alloc o).grownBy w2 (M gr)):zO w2 B b0 a k cap A (fun _=>W) C (fun i j=>((F i j:Nat):Int)):=(hM.below ((Az _ _).alloc (Ay _) o)).keptE a0 c0
theorem litM (w:Ad) (A:Nat->OA) (L C:Nat->Nat) (Z:Nat->Nat->Int):zO (w.alloc (J #[] 40)) w (w.alloc (J #[] 40)).1.size (Q w 0 I) 0 0 A L C Z:=
 vP.zero _ _ _ _ _ _ _ _ _ _ (Cc w #[] 0 (Ay _) (by unfold Au;omega) rfl) (by simp)
theorem jKm (w w1:Ad) (h:w.1.size<=w1.1.size) (c:Nat) (F:Nat->Nat->Nat):jFn w (w1.alloc (J #[] 40)) (V (Q w1 0 I) 0 0) 0 c F:=
 jFn.mk (litM w1 (fun _=>I) (fun _=>c) (fun _=>0) _) h
def jSa (s k:Int):Bool:=decide (0<=s/\s<=2000)&&jAl k
def blI (s k:Int):Int:=if jSa s k=Aw then ((XA s.toNat k.toNat:Nat):Int) else -1
theorem jBh {s k:Nat} (hs:s<=2000) (hk:1<=k) (a0:k<=16):blI (s:Int) (k:Int)=((XA s k:Nat):Int):=by
 unfold blI;rw[A6 (by unfold jSa jAl;simp;omega)];simp
theorem jIn {s k:Int} (h:¬ (0<=s/\s<=2000/\1<=k/\k<=16)):blI s k = -1:=by
 unfold blI;rw[A5];unfold jSa jAl;simp
 omega
theorem jGf {s k:Nat} (_hk:1<=k):Int.tdiv ((s:Int)+2+(k:Int)-1) (k:Int)=((XA s k:Nat):Int):=by
 unfold XA;rw[show (s:Int)+2+(k:Int)-1=((s+2+k-1:Nat):Int) by omega,<-Int.ofNat_tdiv]
theorem JP (s k:Int) (w:Ad):CS 221 #[s,k] w (blI s k):=by
 by_cases h:0<=s/\s<=2000/\1<=k/\k<=16
 .obtain⟨h1,h2,h3,h4⟩:=h;obtain⟨S,rfl⟩:=Dk h1;obtain⟨K,rfl⟩:=Dk (show 0<=k by omega);have a0:jAl (K:Int)=Aw:=by rw[jM5];simp;omega
  have HB:H (blI (S:Int) (K:Int)=((XA S K:Nat):Int)):=jBh (by omega) (by omega) (by omega);have hq:=jGf (s:=S) (k:=K) (by omega);have d0:¬ (S:Int)<0:=by omega
  have e0:¬ (S:Int)>2000:=by omega
  have h0:IntKind.i64.wrap (2+(S:Int))=(S:Int)+2:=by rw[A8];omega
  have i0:IntKind.i64.wrap ((S:Int)+2+(K:Int))=(S:Int)+2+(K:Int):=by rw[A8];omega
  have j0:IntKind.i64.wrap ((S:Int)+2+(K:Int)-1)=(S:Int)+2+(K:Int)-1:=by rw[A8];omega
  have f0:=ZI (s:=S) (k:=K) (by omega);have b0:IntKind.i64.wrap ((XA S K:Nat):Int)=((XA S K:Nat):Int):=by rw[A8];omega
  have g0:((K:Int)==0)=Av:=by simp;omega
  have c0:¬ ((K:Int)=0):=by omega
  generalize XA S K=b at hq b0 HB;go_enter func221,ntmps221
  go_wp2_with (go_at_call 233;refine(xB _ _).mono ?_;rintro e w' ⟨rfl,hw⟩;obtain rfl:=hw.symm)
  go_ret
  exact⟨jS (by rw[HB.out] <;> simp[*]),rfl⟩
 .have HB:H (blI s k = -1):=jIn h;by_cases h1:s<0
  .go_enter func221,ntmps221
   go_wp2
   go_ret
   exact⟨jS HB.symm,rfl⟩
  .by_cases h2:s>2000
   .go_enter func221,ntmps221
    go_wp2
    go_ret
    exact⟨jS HB.symm,rfl⟩
   .have a0:jAl k=Av:=by unfold jAl;simp;omega
    go_enter func221,ntmps221
    go_wp2_with (go_at_call 233;refine(xB _ _).mono ?_;rintro e w' ⟨rfl,hw⟩;obtain rfl:=hw.symm)
    go_ret
    exact⟨jS HB.symm,rfl⟩
theorem jDq (s k:Int) (w:Ad):CS 161 #[s,k] w (blI s k):=by
 by_cases h:0<=s/\s<=2000/\1<=k/\k<=16
 .obtain⟨h1,h2,h3,h4⟩:=h;obtain⟨S,rfl⟩:=Dk h1;obtain⟨K,rfl⟩:=Dk (show 0<=k by omega);have a0:inB (S:Int) 0 2000=Aw:=by unfold inB;simp;omega
  have b0:inB (K:Int) 1 16=Aw:=by unfold inB;simp;omega
  have HB:H (blI (S:Int) (K:Int)=((XA S K:Nat):Int)):=jBh (by omega) (by omega) (by omega);have hq:=jGf (s:=S) (k:=K) (by omega);have g0:IntKind.i64.wrap ((S:Int)+2)=(S:Int)+2:=by rw[A8];omega
  have h0:IntKind.i64.wrap ((S:Int)+2+(K:Int))=(S:Int)+2+(K:Int):=by rw[A8];omega
  have i0:IntKind.i64.wrap ((S:Int)+2+(K:Int)-1)=(S:Int)+2+(K:Int)-1:=by rw[A8];omega
  have e0:=ZI (s:=S) (k:=K) (by omega);have c0:IntKind.i64.wrap ((XA S K:Nat):Int)=((XA S K:Nat):Int):=by rw[A8];omega
  have f0:((K:Int)==0)=Av:=by simp;omega
  have d0:¬ ((K:Int)=0):=by omega
  generalize XA S K=b at hq c0 HB;go_enter func161,ntmps161
  go_wp2_with (go_at_call 43;refine(jM _ _ _ _).mono ?_;rintro e w' ⟨rfl,hw⟩;obtain rfl:=hw.symm)
  go_ret
  exact⟨jS (by rw[HB.out] <;> simp[*]),rfl⟩
 .have HB:H (blI s k = -1):=jIn h;by_cases h1:0<=s/\s<=2000
  have a0:inB s 0 2000=Aw:=by unfold inB;simp;omega
  have b0:inB k 1 16=Av:=by unfold inB;simp;omega
  rotate_left;have a0:inB s 0 2000=Av:=by unfold inB;simp;omega
  rotate_left;all_goals
   go_enter func161,ntmps161
   go_wp2_with (go_at_call 43;refine(jM _ _ _ _).mono ?_;rintro e w' ⟨rfl,hw⟩;obtain rfl:=hw.symm)
   go_ret
   exact⟨jS HB.symm,rfl⟩
theorem jH1 (n:Nat) (w:Ad) (hn:n<=1000):Ak prog 185 #[(n:Int)] w fun e w'=>∃ G cap A C,e=Ae (V (Q G 0 I) n cap)/\zO w' w w'.1.size (Q G 0 I) n cap A (fun _=>n) C (fun i j=>((Gm.dl i j:Nat):Int))/\Ab w w w':=by
 obtain⟨i0,hi,p0,q0,r0⟩:=Ch Tryz.infoInt;obtain⟨i1,hj,u0,v0,w0⟩:=Ch Tryz.infoInts;have H0:H (zO (w.alloc (J #[] 40)) w (w.alloc (J #[] 40)).1.size (Q w 0 I) 0 0 (fun _=>I) (fun _=>n) (fun _=>0) (fun i j=>((Gm.dl i j:Nat):Int))):=litM w _ _ _ _;go_enter func185,ntmps185
 go_wp2
 go_loopw [3,4] (fun v i wr=>∃ k G cap A C,k<=n/\i=Ao Ar ((k:Nat):Int)/\v=V (Q G 0 I) k cap/\zO wr w wr.1.size (Q G 0 I) k cap A (fun _=>n) C (fun i j=>((Gm.dl i j:Nat):Int))/\Ab w w wr) (fun _ i _=>n-(intOf i).toNat)
 case atStart=>exact⟨0,_,_,_,_,Bi _,rfl,rfl,H0.out,(Az _ _).alloc (Ay _) _⟩
 case round=>
  obtain⟨k,G,cap,A,C,hk,rfl,rfl,hM,d0⟩:=hrel;clear H0;by_cases hlt:k<n
  .have z0:(k:Int)<(n:Int):=by omega
   have j0:=d0.size;have KR:H (jCj (wr.alloc (J #[] 3)) wr.1.size wr.1.size 0 0 (Gm.dl k)):=lit0 wr (Gm.dl k);have KM:H (zO (wr.alloc (J #[] 3)) w wr.1.size (Q G 0 I) k cap A (fun _=>n) C (fun i j=>((Gm.dl i j:Nat):Int))):=hM.below ((Az _ _).alloc (Ay _) _);have KB:H (Ab w w (wr.alloc (J #[] 3))):=d0.alloc j0 _;have s0:=hM.olt.1;clear hM d0;obtain⟨b0,n0⟩:∃ b0,wr.1.size=b0:=⟨_,rfl⟩;rw[n0] at KR KM j0;go_wp2
   clear n0;go_loopw [5,6] (fun v i wr=>∃ q gr f0,q<=n/\i=Ao Ar ((q:Nat):Int)/\v=V (Q gr 0 I) q f0/\jCj wr b0 gr q f0 (Gm.dl k)/\zO wr w b0 (Q G 0 I) k cap A (fun _=>n) C (fun i j=>((Gm.dl i j:Nat):Int))/\Ab w w wr) (fun _ i _=>n-(intOf i).toNat)
   case atStart=>exact⟨0,_,_,Bi _,rfl,rfl,KR.out,KM.out,KB.out⟩
   case round=>
    obtain⟨q,gr,f0,hq,rfl,rfl,e0,hM,d0⟩:=hrel;clear KR KM KB;have o0:=e0.lt.1;have k0:=d0.size;have x0:=e0.lt.2;by_cases hqn:q<n
    .have t0:(q:Int)<(n:Int):=by omega
     obtain⟨x,hx⟩:∃ x,Gm.dl k q=x:=⟨_,rfl⟩;by_cases e:k=q
     .subst e;have m0:Gm.dl k k=1:=Gm.dl_self k;clear hx;go_wp2_with (at_builtin;refine Dc _ rfl _ _ 40 rfl b0 3 i0 () 1 8 Ec hi p0 q0 r0 rfl (by decide) (V (M ⟨gr,0,I⟩) k f0) k _ rfl (Cb e0 _) ⟨wr.1.size,0,I⟩ 1 1 [(1:Int)] rfl rfl (Cf (cs:=#[Ao Ar 1]) (t:=3) (fr:=(0,0)) (Co wr _)) (by simp[Aq]) (by omega) (by unfold Au;omega) (by omega) (by simp;omega) (wr.1.size+1) (by simp) ?_;intro g2 cap3 w2 c0 a0 h0 g0)
      have HO:H (jCj w2 b0 g2 (k+1) cap3 (Gm.dl k)):=jCj.snoc (by rw[m0];exact c0);have HM:H (zO w2 w b0 (Q G 0 I) k cap A (fun _=>n) C (fun i j=>((Gm.dl i j:Nat):Int))):=zO.rowed _ hM o0 a0;have hb':Ab w w w2:=(d0.alloc k0 _).grown (show World.grownBy _ w2 (M gr) from a0) (by simp;omega) (fun j hj=>by cases hj;omega);clear c0 a0 h0 g0 e0 hM;go_roundw
      case rel=>exact⟨k+1,g2,cap3,by omega,by go_num,rfl,HO.out,HM.out,hb'⟩
      case measure=>simp[intOf] <;> omega
     .have m0:Gm.dl k q=0:=Gm.dl_ne e;have y0:((k:Int)==(q:Int))=Av:=by simp;omega
      clear hx;go_wp2_with (at_builtin;refine Dc _ rfl _ _ 40 rfl b0 3 i0 () 1 8 Ec hi p0 q0 r0 rfl (by decide) (V (M ⟨gr,0,I⟩) q f0) q _ rfl (Cb e0 _) ⟨wr.1.size,0,I⟩ 1 1 [()] rfl rfl (Cf (cs:=#[Ao Ar 0]) (t:=3) (fr:=(0,0)) (Co wr _)) (by simp[Aq]) (by omega) (by unfold Au;omega) (by omega) (by simp;omega) (wr.1.size+1) (by simp) ?_;intro g2 cap3 w2 c0 a0 h0 g0)
      have HO:H (jCj w2 b0 g2 (q+1) cap3 (Gm.dl k)):=jCj.snoc (by rw[m0];exact c0);have HM:H (zO w2 w b0 (Q G 0 I) k cap A (fun _=>n) C (fun i j=>((Gm.dl i j:Nat):Int))):=zO.rowed _ hM o0 a0;have hb':Ab w w w2:=(d0.alloc k0 _).grown (show World.grownBy _ w2 (M gr) from a0) (by simp;omega) (fun j hj=>by cases hj;omega);clear c0 a0 h0 g0 e0 hM;go_roundw
      case rel=>exact⟨q+1,g2,cap3,by omega,by go_num,rfl,HO.out,HM.out,hb'⟩
      case measure=>simp[intOf] <;> omega
    .obtain rfl:q=n:=by omega
     have t0:¬ (q:Int)<(q:Int):=by omega
     go_wp2_with (at_builtin;refine Dc _ rfl _ _ 200 rfl w 40 i1 (V I 0 0) 1 24 underlying200 hj u0 v0 w0 rfl (by decide) (V (M ⟨G,0,I⟩) k cap) k _ rfl (Cb hM.out _) ⟨wr.1.size,0,I⟩ 1 1 [V (M ⟨gr,0,I⟩) q f0] rfl rfl (Cf (cs:=#[V (Q gr 0 I) q f0]) (t:=40) (fr:=(0,0)) (Co wr _)) (by simp[Aq]) (by omega) (by unfold Au;omega) (by omega) (by simp;omega) (wr.1.size+1) (by simp) ?_;intro g2 cap3 w2 c0 a0 h0 g0)
     obtain⟨A',C',hP⟩:=zO.pushed _ hM j0 e0 a0 c0;have HP:H (zO w2 w w2.1.size g2 (k+1) cap3 A' (fun _=>q) C' (fun i j=>((Gm.dl i j:Nat):Int))):=hP;have hb':Ab w w w2:=(d0.alloc k0 _).grown (show World.grownBy _ w2 (M G) from a0) (by simp;omega) (fun j hj=>by cases hj;exact s0);clear c0 a0 h0 g0 e0 hM hP;go_roundw
     case rel=>exact⟨k+1,g2,cap3,A',C',by omega,by go_num,rfl,HP.out,hb'⟩
     case measure=>simp[intOf] <;> omega
  .obtain rfl:k=n:=by omega
   have KM:H _:=hM;clear hM;go_wp2
   go_ret
   exact⟨G,cap,A,C,rfl,KM.out,d0⟩
section
variable {k:IntKind} {T TT:Nat} {w w':World} {B E:Nat} {n cap:Nat} {A:Nat->Option Addr} {L C:Nat->Nat} {Z:Nat->Nat->Int}
end
end Go.Proofs.YtcaejlalnjnifaaGreat
namespace Go.Proofs.YtcaejlalnjnifaaGreat
def lenV:Aj->Nat
 | .slice _ n _=>n
 | _=>0
theorem jM4 (n:Int):inB n 1 16=jAl n:=rfl
theorem invM {x:Nat} (h:x<256) (h0:x≠0):jQp (x:Int)=((Gf.inv x:Nat):Int):=by
 unfold jQp;rw[A6 (by omega)];simp
theorem jE9 (k n:Int) (w:Ad):Ak prog 162 #[Ao Ar k,n] w fun e w'=>∃ v,e=Ae (Ah #[v,(qU k n)])/\jFn w w' v (jBb k n) k.toNat (Gm.sprd k.toNat)/\Ab w.1.size w w':=by
 obtain⟨i0,hi,r0,s0,t0⟩:=Ch Tryz.infoInt;obtain⟨i1,hj,o0,p0,q0⟩:=Ch Tryz.infoInts;have n0:=jM4 n;by_cases h1:jAl n=Aw
 case neg=>
  have u0:jAl n=Av:=by simpa using h1
  have d0:qU k n=Av:=by unfold qU;simp[u0]
  have hN:jBb k n=0:=by unfold jBb;rw[A5 (by rw[d0];simp)]
  rw[hN,d0];rw[u0] at n0;clear d0 hN hi r0 s0 t0 hj o0 p0 q0;go_enter func162,ntmps162
  go_wp2_with (go_at_call 43;refine(jM _ _ _ _).mono ?_;rintro e w' ⟨rfl,hw⟩;obtain rfl:=hw.symm)
  go_ret2
  exact⟨_,rfl,jKm _ _ (Ay _) _ _,(Az _ _).alloc (Ay _) _⟩
 rw[h1] at n0;by_cases h2:1<=k/\k<=n
 case neg=>
  have d0:qU k n=Av:=by unfold qU;simp[h2]
  have hN:jBb k n=0:=by unfold jBb;rw[A5 (by rw[d0];simp)]
  have k0:inB k 1 n=Av:=by unfold inB;simpa using h2
  rw[hN,d0];clear d0 hN h2 hi r0 s0 t0 hj o0 p0 q0;go_enter func162,ntmps162
  go_wp2_with (go_at_call 43;refine(jM _ _ _ _).mono ?_;rintro e w' ⟨rfl,hw⟩;obtain rfl:=hw.symm)
  go_ret2
  exact⟨_,rfl,jKm _ _ (Ay _) _ _,(Az _ _).alloc (Ay _) _⟩
 have hr:1<=n/\n<=16:=by simpa [jAl] using h1
 have k0:inB k 1 n=Aw:=by unfold inB;simpa using h2
 have d0:qU k n=Aw:=by unfold qU;rw[h1];simp;omega
 obtain⟨N,rfl⟩:∃ N:Nat,n=(N:Int):=⟨n.toNat,by omega⟩;obtain⟨K,rfl⟩:∃ K:Nat,k=(K:Int):=⟨k.toNat,by omega⟩;have hN:jBb (K:Int) (N:Int)=N:=by unfold jBb;rw[A6 d0];simp
 rw[hN,d0,Cz];have j1:1<=K:=by omega
 have hKN:K<=N:=by omega
 have f1:N<=16:=by omega
 clear hN d0 hr h1 h2;have KU:H _:=jH1 K w (by omega);go_enter func162,ntmps162
 go_wp2_with (go_at_call 43;refine(jM _ _ _ _).mono ?_;rintro e w' ⟨rfl,hw⟩;obtain rfl:=hw.symm)
 refine Ax KU.out ?_;rintro e w1 ⟨G1,cap1,A1,C1,rfl,v0,hb1⟩;have H0:H (zO w1 w.1.size w1.1.size G1 K cap1 A1 (fun _=>K) C1 (fun i j=>((Gm.sprd K i j:Nat):Int))):=v0.congr (fun i hi=>⟨rfl,rfl,rfl,fun j _=>by unfold Gm.sprd;rw[A6 hi]⟩);clear v0 KU n0 k0;go_wp2
 go_loopw [6,7] (fun v i wr=>∃ k G cap A C,K<=k/\k<=N/\i=Ao Ar ((k:Nat):Int)/\v=.slice (Q G 0 I) k cap/\zO wr w.1.size wr.1.size (Q G 0 I) k cap A (fun _=>K) C (fun i j=>((Gm.sprd K i j:Nat):Int))/\Ab w.1.size w wr) (fun _ i _=>N-(intOf i).toNat)
 case atStart=>exact⟨K,G1,cap1,A1,C1,Ay _,hKN,rfl,rfl,H0.out,hb1⟩
 case round=>
  obtain⟨k,G,cap,A,C,k1,hk,rfl,rfl,hM,c0⟩:=hrel;clear H0;by_cases hlt:k<N
  .have m1:(k:Int)<(N:Int):=by omega
   have j0:=c0.size;have KR:H (jCj (wr.alloc (J #[] 3)) wr.1.size wr.1.size 0 0 (Gm.sprd K k)):=lit0 wr (Gm.sprd K k);have KM:H (zO (wr.alloc (J #[] 3)) w.1.size wr.1.size (Q G 0 I) k cap A (fun _=>K) C (fun i j=>((Gm.sprd K i j:Nat):Int))):=hM.below ((Az _ _).alloc (Ay _) _);have KB:H (Ab w.1.size w (wr.alloc (J #[] 3))):=c0.alloc j0 _;have a1:=hM.olt.1;clear hM c0;obtain⟨b0,w0⟩:∃ b0,wr.1.size=b0:=⟨_,rfl⟩;rw[w0] at KR KM j0;go_wp2
   clear w0;go_loopw [8,9] (fun v i wr=>∃ q gr f0,q<=K/\i=Ao Ar ((q:Nat):Int)/\v=.slice (Q gr 0 I) q f0/\jCj wr b0 gr q f0 (Gm.sprd K k)/\zO wr w.1.size b0 (Q G 0 I) k cap A (fun _=>K) C (fun i j=>((Gm.sprd K i j:Nat):Int))/\Ab w.1.size w wr) (fun _ i _=>K-(intOf i).toNat)
   case atStart=>exact⟨0,_,_,Bi _,rfl,rfl,KR.out,KM.out,KB.out⟩
   case round=>
    obtain⟨q,gr,f0,hq,rfl,rfl,g0,hM,c0⟩:=hrel;clear KR KM KB;have b1:=g0.lt.1;have y0:=c0.size;have g1:=g0.lt.2;by_cases hqn:q<K
    .have c1:(q:Int)<(K:Int):=by omega
     have n1:=jCf k q (by omega) (by omega);have z0:k ^^^ q≠0:=fun e=>by have:=Gp.xor_eq e;omega
     have e1:k ^^^ q<256:=Gf.xor_lt (by omega) (by omega);have HV:H (Gm.sprd K k q=Gf.inv (k ^^^ q)):=by show _=_;unfold Gm.sprd;rw[A5 (by omega)]
     have x0:=invM e1 z0;have hS:=fun w=>jM0 ((k ^^^ q:Nat):Int) w
     rw[x0] at hS;generalize Gf.inv (k ^^^ q)=V at HV hS;clear x0 z0;go_wp2_with (first|(go_at_call 186;refine(hS _).mono ?_;rintro e w' ⟨rfl,hw⟩;obtain rfl:=hw.symm)|(at_builtin;refine Dc _ rfl _ _ 40 rfl b0 3 i0 () 1 8 Ec hi r0 s0 t0 rfl (by decide) (.slice (M ⟨gr,0,I⟩) q f0) q _ rfl (Cb g0 _) ⟨wr.1.size,0,I⟩ 1 1 [(V:Int)] rfl rfl (Cf (cs:=#[Ao Ar (V:Int)]) (t:=3) (fr:=(0,0)) (Co wr _)) (by simp[Aq]) (by omega) (by unfold Au;omega) (by omega) (by simp;omega) (wr.1.size+1) (by simp) ?_;intro g2 cap3 w2 e0 a0 m0 h0))
     have HO:H (jCj w2 b0 g2 (q+1) cap3 (Gm.sprd K k)):=jCj.snoc (by rw[HV.out];exact e0);have HM:H (zO w2 w.1.size b0 (Q G 0 I) k cap A (fun _=>K) C (fun i j=>((Gm.sprd K i j:Nat):Int))):=zO.rowed _ hM b1 a0;have hb':Ab w.1.size w w2:=(c0.alloc y0 _).grown (show World.grownBy _ w2 (M gr) from a0) (by simp;omega) (fun j hj=>by cases hj;omega);clear e0 a0 m0 h0 g0 hM;go_roundw
     case rel=>exact⟨q+1,g2,cap3,by omega,by go_num,rfl,HO.out,HM.out,hb'⟩
     case measure=>simp[intOf] <;> omega
    .obtain rfl:K=q:=by omega
     have c1:¬ (K:Int)<(K:Int):=by omega
     go_wp2_with (at_builtin;refine Dc _ rfl _ _ 200 rfl w.1.size 40 i1 (.slice I 0 0) 1 24 underlying200 hj o0 p0 q0 rfl (by decide) (.slice (M ⟨G,0,I⟩) k cap) k _ rfl (Cb hM.out _) ⟨wr.1.size,0,I⟩ 1 1 [.slice (M ⟨gr,0,I⟩) K f0] rfl rfl (Cf (cs:=#[.slice (Q gr 0 I) K f0]) (t:=40) (fr:=(0,0)) (Co wr _)) (by simp[Aq]) (by omega) (by unfold Au;omega) (by omega) (by simp;omega) (wr.1.size+1) (by simp) ?_;intro g2 cap3 w2 e0 a0 m0 h0)
     obtain⟨A',C',hP⟩:=zO.pushed _ hM j0 g0 a0 e0;have HP:H (zO w2 w.1.size w2.1.size g2 (k+1) cap3 A' (fun _=>K) C' (fun i j=>((Gm.sprd K i j:Nat):Int))):=hP;have hb':Ab w.1.size w w2:=(c0.alloc y0 _).grown (show World.grownBy _ w2 (M G) from a0) (by simp;omega) (fun j hj=>by cases hj;exact a1);clear e0 a0 m0 h0 g0 hM hP;go_roundw
     case rel=>exact⟨k+1,g2,cap3,A',C',by omega,by omega,by go_num,rfl,HP.out,hb'⟩
     case measure=>simp[intOf] <;> omega
  .obtain rfl:k=N:=by omega
   have KM:H _:=hM;clear hM;go_wp2
   go_ret2
   exact⟨_,rfl,jFn.mk KM.out (Ay _),c0⟩
end Go.Proofs.YtcaejlalnjnifaaGreat
