import Derived.Test.YtcaejlalnjnifaaGreatP7
import Derived.Deep.Strs
import Derived.Test.YtcaejlalnjnifaaGreatP8
set_option maxHeartbeats 8000000
set_option maxRecDepth 2000
open Go.Value renaming slice->V,string->Ag,agg->Ai,int->Ao
open Option renaming none->I,some->M
open Go.RowKit renaming Hid->H,Below->Ab
open Go.Addr renaming mk->Q
open Go renaming undef->O,World->Ad,Value->Aj,Calls->Ak,Addr->Al,maxLen->Au
open Go.Obj renaming cells->J
open Go.Ending renaming returned->Ae
open ByteArray renaming empty->Ap
open Go.IntKind renaming i64->Ar
open Bool renaming false->Av,true->Aw
open Go.Proofs.Tryz
open Go.ChangeShapes Go.WideShapes Go.ChangeAt Go.RowKit
namespace Go.Proofs.YtcaejlalnjnifaaGreat
theorem Tryz.infoStr:(Tryz.prog.info? 9).map (fun i=>(i.zero,i.size,i.bytes))=M (M (Ag Ap),1,16):=by kernel_rfl
def jK (w:Ad) (a:OA) (n:Nat) (S:Nat->BA):Prop:=∀ i,i<n->∃ b off,a=M (Q b off I)/\w.cell? (Q b (off+i) I)=M (Ag (S i))
theorem jK.below {w w':Ad} {a:OA} {n:Nat} {S:Nat->BA} (h:jK w a n S) (hb:Ab w w w'):jK w' a n S:=fun i hi=>by
 obtain⟨b,off,e,hc⟩:=h i hi;exact⟨b,off,e,(hb.cell (p:=Q b (off+i) I) (A7 hc)).trans hc⟩
theorem jK.some {w:Ad} {a:OA} {n:Nat} {S:Nat->BA} (h:jK w a n S) (hn:0<n):∃ b off,a=M (Q b off I)/\∀ i,i<n->w.cell? (Q b (off+i) I)=.some (Ag (S i)):=by
 obtain⟨b,off,e,_⟩:=h 0 hn;refine⟨b,off,e,fun i hi=>?_⟩;obtain⟨b',a0,e',hc⟩:=h i hi;rw[e] at e';simp at e';obtain⟨rfl,rfl⟩:=e';exact hc
def sL (S:Nat->BA) (n:Nat):List Aj:=(List.range n).map fun i=>Ag (S i)
theorem qW (S:Nat->BA) (n:Nat):(sL S n).length=n:=by simp[sL]
theorem zA (S:Nat->BA) (n i:Nat) (h:i<n):(sL S n)[i]?=M (Ag (S i)):=by simp[sL,h]
theorem xQ {S S':Nat->BA} {n:Nat} (h:∀ i,i<n->S i=S' i):sL S n=sL S' n:=by
 unfold sL;apply Ek
 intro i hi;rw[h i (Fe.1 hi)]
theorem JY (S:Nat->BA) (n:Nat):sL S (n+1)=sL S n++[Ag (S n)]:=by
 unfold sL;rw[List.range_succ,Dv];rfl
theorem jA5 (S:Nat->BA) (n k:Nat) (s:BA) (h:k<n):(sL S n).set k s=sL (fun i=>if i=k then s else S i) n:=by
 apply Cn
 intro i;rw[Ez];by_cases hi:i<n
 .by_cases e:k=i
  .subst e;simp[sL,h]
  .simp[sL,hi,e,Ci e]
 .by_cases e:k=i
  .omega
  .rw[A5 e,Bb (by rw[qW];omega),Bb (by rw[qW];omega)]
theorem ZE (n:Nat):sL (fun _=>Ap) n=List.replicate n (Ag Ap):=by
 apply Cn
 intro i;by_cases hi:i<n
 .rw[zA _ _ _ hi];simp[hi]
 .rw[Bb (by rw[qW];omega),Bb (by simp;omega)]
def jI (w:Ad) (B:Nat) (a:OA) (n cap:Nat) (S:Nat->BA):Prop:=w.ownsRow B 9 1 (V a n cap) n (sL S n)
theorem jI.at {w:Ad} {B:Nat} {a:OA} {n cap:Nat} {S:Nat->BA} (h:jI w B a n cap S):jK w a n S:=by
 intro i hi;rcases jW h with ⟨rfl,rfl,rfl⟩|⟨g,a0,rfl,_⟩
 .omega
 .exact⟨g,0,rfl,by rw[Bq,h.cellAt i (by omega),zA _ _ _ hi]⟩
theorem jI.below {w w':Ad} {B:Nat} {a:OA} {n cap:Nat} {S:Nat->BA} (h:jI w B a n cap S) (hb:Ab w w w'):jI w' B a n cap S:=jF h hb
theorem jI.congr {w:Ad} {B:Nat} {a:OA} {n cap:Nat} {S S':Nat->BA} (h:jI w B a n cap S) (e:∀ i,i<n->S i=S' i):jI w B a n cap S':=by
 unfold jI at *;rw[<-xQ e];exact h
theorem jI.base {w:Ad} {B B':Nat} {a:OA} {n cap:Nat} {S:Nat->BA} (h:jI w B a n cap S) (hB:B'<=B):jI w B' a n cap S:=jX h hB
theorem jI.nil (w:Ad) (B:Nat) (S:Nat->BA):jI w B I 0 0 S:=Fp w B _ _
theorem jIc (w:Ad) (S:Nat->BA):jI (w.alloc (J #[] 9)) w (Q w 0 I) 0 0 S:=
 Cc w #[] 0 (Ay _) (by unfold Au;omega) rfl
def jCk (w w':Ad) (v:Aj) (n:Nat) (S:Nat->BA):Prop:=∃ a cap,v=V a n cap/\jI w' w a n cap S
theorem jCk.none (w w':Ad) (S:Nat->BA):jCk w w' (V I 0 0) 0 S:=⟨_,_,rfl,jI.nil _ _ _⟩
theorem vC (s:BA):(s.toList==s.toList)=Aw:=by simp
theorem jEe {s u:BA} (h:s≠u):(s.toList==u.toList)=Av:=by
 rw[ByteArray.toList_eq,ByteArray.toList_eq];simp only[beq_eq_false_iff_ne,ne_eq];intro e;exact h (ByteArray.ext (Array.toList_inj.1 e))
theorem jLx (a b:OA) (n ca cb:Nat) (S:Nat->BA) (w:Ad) (ha:jK w a n S) (hb:jK w b n S) (hn:n<=1048576):CB 176 #[V a n ca,V b n cb] w Aw:=by
 go_enter func176,ntmps176
 go_wp2
 go_loopw [5] (fun i wr=>∃ k:Nat,k<=n/\i=Ao Ar k/\Ab w w wr) (fun i _=>n-(intOf i).toNat)
 case atStart=>exact⟨0,Bi _,rfl,Az _ _⟩
 case round=>
  obtain⟨k,hk,rfl,hbel⟩:=hrel;have a0:=ha.below hbel;have b0:=hb.below hbel;by_cases hlt:k<n
  .obtain⟨ba,oa,rfl,c0⟩:=a0 k hlt;obtain⟨bb,ob,rfl,d0⟩:=b0 k hlt;have e0:(k:Int)<(n:Int):=by omega
   generalize S k=s at c0 d0;have f0:=vC s;go_wp2
   go_quiet (fail)
   go_wp2
   go_roundw
   case rel=>exact⟨k+1,by omega,by go_num,Cy hbel _⟩
   case measure=>simp[intOf];omega
  .go_wp2
   go_ret
   exact⟨rfl,hbel⟩
theorem jQg (a:OA) (n cap:Nat) (S:Nat->BA) (w:Ad) (h:jK w a n S) (hn:n<=1048576):Ak prog 174 #[V a n cap] w fun e w'=>e=Ae (V (Q w 0 I) n n)/\jI w' w (Q w 0 I) n n S/\Ab w w w':=by
 obtain⟨i0,hi,e0,f0,g0⟩:=Ch Tryz.infoStr;have KH:=hd h;clear h;go_enter func174,ntmps174
 go_wp2_with (at_make;refine Cx _ rfl _ _ 27 rfl w 9 i0 Ap 1 C3 hi e0 f0 Ar Ar _ _ n rfl rfl rfl rfl (by rw[g0];omega) (by unfold Au;omega) (Ay _) ?_;intro w1 a0 c0)
 have hb1:Ab w w w1:=(Az _ _).grown c0 (Ay _) (by simp);have ho1:jI w1 w (Q w 0 I) n n (fun i=>if i<0 then S i else Ap):=by
  have e:sL (fun i=>if i<0 then S i else Ap) n=List.replicate n (Ag Ap):=by rw[<-ZE];exact xQ (fun i _=>by simp)
  unfold jI;rw[e];simpa [Value.cells,Dp] using a0
 clear a0 c0;go_loopw [4] (fun i wr=>∃ k:Nat,k<=n/\i=Ao Ar k/\jI wr w (Q w 0 I) n n (fun i=>if i<k then S i else Ap)/\Ab w w wr) (fun i _=>n-(intOf i).toNat)
 case atStart=>exact⟨0,Bi _,rfl,ho1,hb1⟩
 case round=>
  obtain⟨k,hk,rfl,a0,b0⟩:=hrel;clear ho1 hb1;by_cases hlt:k<n
  .obtain⟨b,off,rfl,hc⟩:=KH.below b0 k hlt;have h0:(k:Int)<(n:Int):=by omega
   obtain⟨old,j0⟩:∃ v,wr.cell? (Q w k I)=M v:=by
    rw[Bt a0 k (by omega)];exact⟨_,zA _ _ _ hlt⟩
   have k0:=B0 a0 k;have d0:=Dh a0 k (S k);rw[jA5 _ _ _ _ hlt] at d0;have HO:H (jI (wr.setCell (Q w k I) (S k)) w (Q w 0 I) n n (fun i=>if i<k+1 then S i else Ap)):=jI.congr d0.1 (fun i _=>by
    by_cases e:i=k
    .simp[e]
    .by_cases e2:i<k
     .simp[e,e2,show i<k+1 by omega]
     .simp[e,e2,show ¬ i<k+1 by omega])
   have hne:Ab w w (wr.setCell (Q w k I) (S k)):=b0.setCell (Ay _) _;clear d0 a0;go_wp2
   go_roundw
   case rel=>exact⟨k+1,by omega,by go_num,HO.out,hne⟩
   case measure=>simp[intOf];omega
  .obtain rfl:k=n:=by omega
   have HO:=hd (a0.congr (fun i hi=>A6 hi));clear a0;go_wp2
   go_ret
   exact⟨rfl,HO,b0⟩
theorem jQd (a:OA) (n cap:Nat) (S:Nat->BA) (l:Nat) (w:Ad) (h:jK w a n S) (hl:l<=1048576) (hn:n<=Au) (hL:∀ i,i<n->(S i).size<=Au):CS 172 #[V a n cap,(l:Int)] w (szF (fun i=>(S i).size) n l):=by
 unfold Au at hn hL;by_cases h1:n<=l
 .obtain⟨d,hd⟩:∃ d,l-n=d:=⟨_,rfl⟩;have hw:IntKind.i64.wrap ((l:Int)-(n:Int))=(d:Int):=by rw[A8];omega
  have h0:¬ ((d:Int)<0):=by omega
  have KL:H _:=hL;have KH:H (jK w a n S):=h;clear hL h;go_enter func172,ntmps172
  go_wp2
  go_loop [1,5] (fun p i=>∃ c q:Nat,c<=n/\q<=1048576/\H (tot (fun i=>(S i).size) c+q=d)/\p=Ao Ar (q:Int)/\i=Ao Ar (c:Int)) (fun _ i=>n-(intOf i).toNat)
  case atStart=>exact⟨0,d,Bi _,by omega,by show 0+d=d;omega,rfl,rfl⟩
  case round=>
   obtain⟨c,q,hc,hq,HT,rfl,rfl⟩:=hrel;clear hw h0;by_cases hlt:c<n
   .obtain⟨b,off,rfl,c0⟩:=KH c hlt;have e0:=KL c hlt;have f0:=jGs (fun i=>(S i).size) hlt;have j0:(c:Int)<(n:Int):=by omega
    have d0:=HT.out;obtain⟨s,hs⟩:∃ s,S c=s:=⟨_,rfl⟩;have a0:tot (fun i=>(S i).size) c+s.size<=tot (fun i=>(S i).size) n:=by rw[<-hs];exact f0
    have b0:H (tot (fun i=>(S i).size) (c+1)=tot (fun i=>(S i).size) c+s.size):=by rw[<-hs];rfl
    rw[hs] at c0 e0;obtain⟨lc,g0⟩:∃ lc,s.size=lc:=⟨_,rfl⟩;rw[g0] at e0 a0 b0;clear f0 hs;by_cases h2:lc<=q
    .obtain⟨q',k0⟩:∃ q',q-lc=q':=⟨_,rfl⟩;have i0:IntKind.i64.wrap ((q:Int)-(lc:Int))=(q':Int):=by rw[A8];omega
     have h3:¬ ((q':Int)<0):=by omega
     have HT2:H (tot (fun i=>(S i).size) (c+1)+q'=d):=by show _=_;rw[b0.out];omega
     have hq2:q'<=1048576:=by omega
     clear HT d0 a0 b0;go_wp2
     go_round
     case rel=>exact⟨c+1,q',by omega,hq2,HT2,rfl,by go_num⟩
     case measure=>simp[intOf] <;> omega
    .have i0:IntKind.i64.wrap ((q:Int)-(lc:Int))=(q:Int)-(lc:Int):=by rw[A8];omega
     have h3:(q:Int)-(lc:Int)<0:=by omega
     have HR:H (szF (fun i=>(S i).size) n l = -1):=by
      show _=_;unfold szF;rw[A5 (by omega)]
     clear HT d0 a0 b0;go_wp2
     go_ret
     exact⟨jS HR.symm,rfl⟩
   .obtain rfl:c=n:=by omega
    have HR:H (szF (fun i=>(S i).size) c l=(q:Int)):=by
     have:=HT.out
     show _=_;unfold szF;rw[A6 (by omega)];omega
    clear KH;go_wp2
    go_ret
    exact⟨jS HR.symm,rfl⟩
 .have h0:(l:Int)-(n:Int)<0:=by omega
  have hw:IntKind.i64.wrap ((l:Int)-(n:Int))=(l:Int)-(n:Int):=by rw[A8];omega
  have HR:H (szF (fun i=>(S i).size) n l = -1):=by show _=_;unfold szF;rw[A5 (by omega)]
  clear h hL;go_enter func172,ntmps172
  go_wp2
  go_ret
  exact⟨jS HR.symm,rfl⟩
inductive Dt where
 | val (v:Aj)
 | lst (t:TypeId) (sz n:Nat) (f:Nat->Nat->Dt)
def Rd (w:Ad):Dt->Aj->Prop
 | .val v,x=>x=v
 | .lst _ sz n f,x=>∃ a cap,x=V a n cap/\∀ i,i<n->∃ b off,a=M ⟨b,off,I⟩/\∀ q,q<sz->∃ y,w.cell? ⟨b,off+(i*sz+q),I⟩=M y/\Rd w (f i q) y
theorem Rd.keep {w w':Ad} (h:∀ (p:Al) (v:Aj),w.cell? p=M v->w'.cell? p=M v):∀ {d:Dt} {v:Aj},Rd w d v->Rd w' d v:=by
 intro d;induction d with
 | val v=>intro x hx;exact hx
 | lst t sz n f ih=>
  rintro x ⟨a,cap,e,hx⟩;refine⟨a,cap,e,fun i hi=>?_⟩;obtain⟨b,off,ea,hq⟩:=hx i hi;refine⟨b,off,ea,fun q a0=>?_⟩;obtain⟨y,hy,hr⟩:=hq q a0;exact⟨y,h _ _ hy,ih i q hr⟩
theorem Rd.below {w w':Ad} {d:Dt} {v:Aj} (h:Rd w d v) (hb:Ab w w w'):Rd w' d v:=
 h.keep fun _ _ hp=>(hb.cell (A7 hp)).trans hp
theorem Rd.nil (w:Ad) (t:TypeId) (sz:Nat) (f:Nat->Nat->Dt) (a:OA) (cap:Nat):Rd w (.lst t sz 0 f) (V a 0 cap):=⟨a,cap,rfl,fun _ hi=>Bo hi (Bk _)⟩
theorem Rd.shape {w:Ad} {t:TypeId} {sz n:Nat} {f:Nat->Nat->Dt} {v:Aj} (h:Rd w (.lst t sz n f) v):∃ a cap,v=V a n cap:=by
 obtain⟨a,cap,e,_⟩:=h;exact⟨a,cap,e⟩
theorem Rd.row {w:Ad} {t:TypeId} {sz n:Nat} {f:Nat->Nat->Dt} {a:OA} {cap:Nat} (h:Rd w (.lst t sz n f) (V a n cap)) {i:Nat} (hi:i<n):∃ (b off:Nat) (y:Nat->Aj),a=M (Q b off I)/\(∀ q,q<sz->w.cell? (Q b (off+(i*sz+q)) I)=M (y q))/\∀ q,q<sz->Rd w (f i q) (y q):=by
 obtain⟨a',a0,e,hx⟩:=h;cases e;obtain⟨b,off,ea,hq⟩:=hx i hi;have:∀ q,∃ y,q<sz->w.cell? (Q b (off+(i*sz+q)) I)=M y/\Rd w (f i q) y:=fun q=>by
  by_cases h:q<sz
  .obtain⟨y,hy⟩:=hq q h;exact⟨y,fun _=>hy⟩
  .exact⟨O,fun h'=>Bo h' h⟩
 obtain⟨y,hy⟩:=Ex this;exact⟨b,off,y,ea,fun q hq=>(hy q hq).1,fun q hq=>(hy q hq).2⟩
def txD (m:Nat) (S:Nat->BA):Dt:=.lst 9 1 m fun i _=>.val (S i)
def inD (zs:List Int):Dt:=.lst 3 1 zs.length fun i _=>.val (zs.getD i 0)
theorem zW {w:Ad} {m:Nat} {S:Nat->BA} {a:OA} {cap:Nat}:Rd w (txD m S) (V a m cap)↔jK w a m S:=by
 constructor
 .rintro⟨a',a0,e,hx⟩ i hi;cases e;obtain⟨b,off,ea,hq⟩:=hx i hi;obtain⟨y,hy,hr⟩:=hq 0 (by omega);exact⟨b,off,ea,by rw[show off+i=off+(i*1+0) by omega,hy];exact D8 M hr⟩
 .intro h;refine⟨a,cap,rfl,fun i hi=>?_⟩;obtain⟨b,off,ea,hc⟩:=h i hi;refine⟨b,off,ea,fun q hq=>?_⟩;obtain rfl:q=0:=by omega
  exact⟨_,by rw[show off+(i*1+0)=off+i by omega];exact hc,rfl⟩
theorem qK {w:Ad} {zs:List Int} {a:OA} {cap:Nat}:Rd w (inD zs) (V a zs.length cap)↔jH w a zs.length zs:=by
 constructor
 .rintro⟨a',a0,e,hx⟩;refine⟨rfl,fun i hi=>?_⟩;cases e;obtain⟨b,off,ea,hq⟩:=hx i hi;obtain⟨y,hy,hr⟩:=hq 0 (by omega);exact⟨b,off,ea,by rw[show off+i=off+(i*1+0) by omega,hy];exact D8 M hr⟩
 .intro h;refine⟨a,cap,rfl,fun i hi=>?_⟩;obtain⟨b,off,ea,hc⟩:=h.2 i hi;refine⟨b,off,ea,fun q hq=>?_⟩;obtain rfl:q=0:=by omega
  exact⟨_,by rw[show off+(i*1+0)=off+i by omega];exact hc,rfl⟩
def cL (sz:Nat) (c:Nat->Nat->Aj) (n:Nat):List Aj:=(List.range (n*sz)).map fun j=>c (j / sz) (j % sz)
theorem jY (sz:Nat) (c:Nat->Nat->Aj) (n:Nat):(cL sz c n).length=n*sz:=by simp[cL]
theorem qM {sz n i q:Nat} (hi:i<n) (hq:q<sz):i*sz+q<n*sz:=by
 have:=D7 sz (show i+1<=n by omega)
 rw[F5] at this;omega
theorem jPo {sz i q:Nat} (hq:q<sz):(i*sz+q) / sz=i:=by rw[He,Nat.mul_add_div (by omega),Nat.div_eq_of_lt hq,Cp]
theorem jPp {sz i q:Nat} (hq:q<sz):(i*sz+q) % sz=q:=by rw[He,Nat.mul_add_mod,Dw hq]
theorem vA {sz j:Nat}:j / sz*sz+j % sz=j:=by rw[He];exact Nat.div_add_mod j sz
theorem jT (sz:Nat) (c:Nat->Nat->Aj) (n i q:Nat) (hi:i<n) (hq:q<sz):(cL sz c n)[i*sz+q]?=M (c i q):=by
 simp[cL,qM hi hq,jPo hq,jPp hq]
theorem vX {sz:Nat} {c c':Nat->Nat->Aj} {n:Nat} (h:∀ i q,i<n->q<sz->c i q=c' i q):cL sz c n=cL sz c' n:=by
 unfold cL;refine Ek fun j hj=>?_
 have a0:j<n*sz:=by simpa using hj
 have hs:0<sz:=by
  rcases Fz sz with e|e
  .subst e;omega
  .exact e
 exact h _ _ ((C8 hs).2 a0) (E7 _ hs)
theorem jFu (sz:Nat) (c:Nat->Nat->Aj) (n i q:Nat) (v:Aj) (hi:i<n) (hq:q<sz):(cL sz c n).set (i*sz+q) v=cL sz (fun i' q'=>if i'=i/\q'=q then v else c i' q') n:=by
 apply Cn
 intro j;rw[Ez];by_cases hj:j<n*sz
 .by_cases e:i*sz+q=j
  .subst e;rw[A6 rfl,A6 (by rw[jY];exact hj),jT _ _ _ _ _ hi hq];simp
  .rw[A5 e];have hs:0<sz:=by omega
   have h1:=jT sz c n (j / sz) (j % sz) ((C8 hs).2 hj) (E7 _ hs);have h2:=jT sz (fun i' q'=>if i'=i/\q'=q then v else c i' q') n (j / sz) (j % sz) ((C8 hs).2 hj) (E7 _ hs);rw[vA] at h1 h2;rw[h1,h2,A5 (fun⟨e1,e2⟩=>e (by rw[<-e1,<-e2];exact vA))]
 .rw[A5 (fun e=>hj (by rw[<-e];exact qM hi hq))];rw[Bb (by rw[jY];omega),Bb (by rw[jY];omega)]
structure Sep (a:OA) (n sz:Nat) (G:Nat->Nat->Nat->Prop) (F:Nat->Prop):Prop where
 head:∀ x,a=M x->F x.block
 sub:∀ i q g,i<n->q<sz->G i q g->F g
 apart:∀ i q x,i<n->q<sz->a=M x->¬ G i q x.block
 each:∀ i q i' q' g,i<n->q<sz->i'<n->q'<sz->G i q g->G i' q' g->i=i'/\q=q'
def Ow (w:Ad) (B:Nat):Dt->Aj->(Nat->Prop)->Prop
 | .val v,x,_=>x=v
 | .lst t sz n f,x,F=>∃ a cap c G,x=V a n cap/\w.ownsRow B t sz (V a n cap) n (cL sz c n)/\Sep a n sz G F/\∀ i q,i<n->q<sz->Ow w B (f i q) (c i q) (G i q)
theorem Ow.mono {w:Ad} {B:Nat} {d:Dt} {v:Aj} {F F':Nat->Prop} (h:Ow w B d v F) (hF:∀ g,F g->F' g):Ow w B d v F':=by
 cases d with
 | val v=>exact h
 | lst t sz n f=>
  obtain⟨a,cap,c,G,e,ho,hs,hr⟩:=h;exact⟨a,cap,c,G,e,ho,⟨fun x hx=>hF _ (hs.head x hx),fun i q g hi hq hg=>hF _ (hs.sub i q g hi hq hg),hs.apart,hs.each⟩,hr⟩
theorem Ow.frame {w w':Ad} {B:Nat}:∀ {d:Dt} {v:Aj} {F:Nat->Prop},Ow w B d v F->(∀ g,F g->g<w.1.size->w'.1[g]?=w.1[g]?)->Ow w' B d v F:=by
 intro d;induction d with
 | val v=>intro x F hx _;exact hx
 | lst t sz n f ih=>
  rintro x F ⟨a,cap,c,G,e,ho,hs,hr⟩ hF;refine⟨a,cap,c,G,e,⟨ho.1,?_⟩,hs,fun i q hi hq=>ih i q (hr i q hi hq) fun g hg=>hF g (hs.sub i q g hi hq hg)⟩;rcases ho.2 with h'|⟨g,a0,b0,h1,h2,h3,h4⟩
  .exact .inl h'
  .refine .inr ⟨g,a0,b0,h1,h2,?_,h4⟩;have hx:a=M (Q g 0 I):=by cases h1;rfl
   rw[hF g (hs.head _ hx) (By.1 h3).1];exact h3
theorem Ow.below {w w':Ad} {B:Nat} {d:Dt} {v:Aj} {F:Nat->Prop} (h:Ow w B d v F) (hb:Ab w w w'):Ow w' B d v F:=h.frame fun g _ hg=>hb.block g hg
theorem Ow.base {w:Ad} {B B':Nat}:∀ {d:Dt} {v:Aj} {F:Nat->Prop},Ow w B d v F->B'<=B->Ow w B' d v F:=by
 intro d;induction d with
 | val v=>intro x F hx _;exact hx
 | lst t sz n f ih=>
  rintro x F ⟨a,cap,c,G,e,ho,hs,hr⟩ hB;exact⟨a,cap,c,G,e,jX ho hB,hs,fun i q hi hq=>ih i q (hr i q hi hq) hB⟩
theorem Ow.rd {w:Ad} {B:Nat}:∀ {d:Dt} {v:Aj} {F:Nat->Prop},Ow w B d v F->Rd w d v:=by
 intro d;induction d with
 | val v=>intro x F hx;exact hx
 | lst t sz n f ih=>
  rintro x F ⟨a,cap,c,G,e,ho,hs,hr⟩;refine⟨a,cap,e,fun i hi=>?_⟩;rcases jW ho with ⟨_,h0,_⟩|⟨g,a0,rfl,_⟩
  .omega
  .refine⟨g,0,rfl,fun q hq=>⟨c i q,?_,ih i q (hr i q hi hq)⟩⟩;rw[Bq,ho.cellAt _ (qM hi hq)];exact jT _ _ _ _ _ hi hq
theorem Ow.cut {w:Ad} {B:Nat}:∀ {d:Dt} {v:Aj} {F:Nat->Prop},Ow w B d v F->Ow w B d v (fun g=>F g/\B<=g/\g<w.1.size):=by
 intro d;induction d with
 | val v=>intro x F hx;exact hx
 | lst t sz n f ih=>
  rintro x F ⟨a,cap,c,G,e,ho,hs,hr⟩;refine⟨a,cap,c,fun i q g=>G i q g/\B<=g/\g<w.1.size,e,ho,⟨fun x hx=>⟨hs.head x hx,?_⟩,fun i q g hi hq hg=>⟨hs.sub i q g hi hq hg.1,hg.2⟩,fun i q x hi hq hx hg=>hs.apart i q x hi hq hx hg.1,fun i q i' q' g hi hq b0 c0 hg a0=>hs.each i q i' q' g hi hq b0 c0 hg.1 a0.1⟩,fun i q hi hq=>ih i q (hr i q hi hq)⟩;subst hx;exact A0 ho x.block rfl
theorem Ow.nil (w:Ad) (B:Nat) (t:TypeId) (sz:Nat) (f:Nat->Nat->Dt) (F:Nat->Prop):Ow w B (.lst t sz 0 f) (V I 0 0) F:=
 ⟨I,0,fun _ _=>O,fun _ _ _=>False,rfl,by have:=Fp w B t sz;simpa [cL] using this,⟨fun _ e=>(nomatch e),fun _ _ _ hi=>Bo hi (Bk _),fun _ _ _ hi=>Bo hi (Bk _),fun _ _ _ _ _ hi=>Bo hi (Bk _)⟩,fun _ _ hi=>Bo hi (Bk _)⟩
theorem Ow.congr {w:Ad} {B:Nat} {t:TypeId} {sz n:Nat} {f f':Nat->Nat->Dt} {v:Aj} {F:Nat->Prop} (h:Ow w B (.lst t sz n f) v F) (e:∀ i q,i<n->q<sz->f i q=f' i q):Ow w B (.lst t sz n f') v F:=by
 obtain⟨a,cap,c,G,ex,ho,hs,hr⟩:=h;exact⟨a,cap,c,G,ex,ho,hs,fun i q hi hq=>by rw[<-e i q hi hq];exact hr i q hi hq⟩
theorem xP {w:Ad} {B:Nat} {a:OA} {m cap:Nat} {S:Nat->BA} {F:Nat->Prop} (h:jI w B a m cap S) (hF:∀ x,a=M x->F x.block):Ow w B (txD m S) (V a m cap) F:=by
 refine⟨a,cap,fun i _=>Ag (S i),fun _ _ _=>False,rfl,?_,⟨hF,fun _ _ _ _ _ h=>h.elim,fun _ _ _ _ _ _ h=>h,fun _ _ _ _ _ _ _ _ _ h=>h.elim⟩,fun _ _ _ _=>rfl⟩;have:cL 1 (fun i _=>Ag (S i)) m=sL S m:=by unfold cL sL;simp
 rw[this];exact h
theorem jGu {w:Ad} {B:Nat} {v:Aj} {m:Nat} {S:Nat->BA} {F:Nat->Prop} (h:Ow w B (txD m S) v F):∃ a cap,v=V a m cap/\jI w B a m cap S/\∀ x,a=M x->F x.block:=by
 obtain⟨a,cap,c,G,e,ho,hs,hr⟩:=h;refine⟨a,cap,e,?_,hs.head⟩;have:cL 1 c m=sL S m:=by
  unfold cL sL;simp only[G5,Nat.div_one];refine Ek fun j hj=>?_
  exact hr j (j % 1) (Fe.1 hj) (by omega)
 unfold jI;rw[<-this];exact ho
structure Trn (w w':Ad) (F:Nat->Prop):Prop where
 os:w'.os=w.os
 tape:w'.tape=w.tape
 output:w'.output=w.output
 size:w.1.size<=w'.1.size
 block:∀ j,j<w.1.size->¬ F j->w'.1[j]?=w.1[j]?
theorem Trn.refl (w:Ad) (F:Nat->Prop):Trn w w F:=⟨rfl,rfl,rfl,Ay _,fun _ _ _=>rfl⟩
theorem Trn.trans {w w1 w2:Ad} {F:Nat->Prop} (h:Trn w w1 F) (h2:Trn w1 w2 F):Trn w w2 F:=
 ⟨h2.os.trans h.os,h2.tape.trans h.tape,h2.output.trans h.output,Bx h.size h2.size,fun j hj hn=>(h2.block j (Br hj h.size) hn).trans (h.block j hj hn)⟩
theorem Trn.mono {w w':Ad} {F F':Nat->Prop} (h:Trn w w' F) (hF:∀ g,F g->F' g):Trn w w' F':=⟨h.os,h.tape,h.output,h.size,fun j hj hn=>h.block j hj fun hf=>hn (hF j hf)⟩
theorem Trn.ofBelow {w w':Ad} (F:Nat->Prop) (h:Ab w w w'):Trn w w' F:=⟨h.os,h.tape,h.output,h.size,fun j hj _=>h.block j hj⟩
theorem Trn.below {w w':Ad} {F:Nat->Prop} {s:Nat} (h:Trn w w' F) (hs:∀ g,F g->s<=g) (hw:s<=w):Ab s w w':=⟨h.os,h.tape,h.output,h.size,fun j hj=>h.block j (by omega) fun hf=>by have:=hs j hf;omega⟩
theorem Trn.set (w:Ad) {F:Nat->Prop} {g:Nat} (j:Nat) (v:Aj) (hF:F g):Trn w (w.setCell (Q g j I) v) F:=⟨rfl,rfl,rfl,by simp,fun i _ hi=>Ck w (Q g j I) i v (fun e=>by subst e;exact hi hF)⟩
theorem Trn.ofM {w w':Ad} {B E:Nat} {F:Nat->Prop} (h:zC w w' B E) (hF:∀ g,B<=g->g<E->F g):Trn w w' F:=⟨h.os,h.tape,h.output,h.size,fun j hj hn=>h.block j hj (by
 by_cases h1:j<B
 .exact .inl h1
 .by_cases h2:E<=j
  .exact .inr h2
  .exact Bo (hF j (by omega) (by omega)) hn)⟩
theorem Ow.turned {w w':Ad} {B:Nat} {d:Dt} {v:Aj} {F F':Nat->Prop} (h:Ow w B d v F) (ht:Trn w w' F') (hd:∀ g,F g->¬ F' g):Ow w' B d v F:=h.frame fun g hg hl=>ht.block g hl (hd g hg)
def rng (a b g:Nat):Prop:=a<=g/\g<b
def jN3:Nat->Nat->BA->BA
 | 0,_,o=>o
 | f+1,k,o=>if k=0 then o else jN3 f (k / 10) (strOfNums [((48+k % 10:Nat):Int)]++o)
def xC (k:Nat):BA:=if k=0 then ⟨#[109,48]⟩ else (⟨#[109]⟩:BA)++jN3 k k Ap
theorem jJv (f:Nat) (o:BA):jN3 f 0 o=o:=by cases f <;> rfl
set_option maxRecDepth 100000 in
theorem jR (k:Nat) (w:Ad) (hk:k<=1000000000):CB 98 #[(k:Int)] w (xC k):=by
 by_cases h0:k=0
 .subst h0;have HM:H (xC 0=⟨#[109,48]⟩):=rfl;go_enter func98,ntmps98
  go_wp2
  go_ret
  exact⟨xU HM.symm,Az _ _⟩
 .have j0:¬ (k:Int)<=0:=by omega
  have HM:H (xC k=(⟨#[109]⟩:BA)++jN3 k k Ap):=by show _=_;unfold xC;rw[A5 h0]
  go_enter func98,ntmps98
  go_wp2
  go_loopw [0,3] (fun v0 v3 wr=>∃ (j f:Nat) (o:BA),j<=f/\o.size+j<=k/\v0=Ao Ar (j:Int)/\v3=Ag o/\H (jN3 f j o=jN3 k k Ap)/\Ab w w wr) (fun v0 _ _=>(intOf v0).toNat)
  case atStart=>exact⟨k,k,Ap,Ay _,by show 0+k<=k;omega,rfl,rfl,rfl,Az _ _⟩
  case round=>
   obtain⟨j,f,o,g0,k0,rfl,rfl,HG,a0⟩:=hrel;by_cases hj:j=0
   .subst hj;have HO:H (xC k=(⟨#[109]⟩:BA)++o):=by show _=_;rw[HM.out,<-HG.out,jJv]
    have n0:o.size<=1000000000:=by omega
    go_wp2
    go_ret
    exact⟨xU HO.symm,a0⟩
   .have i0:(0:Int)<(j:Int):=by omega
    have e0:(j:Int)>0:=by omega
    obtain⟨f',rfl⟩:∃ f',f=f'+1:=⟨f-1,by omega⟩;have HG2:H (jN3 f' (j / 10) (strOfNums [((48+j % 10:Nat):Int)]++o)=jN3 k k Ap):=by
     show _=_;rw[<-HG.out];show _=if j=0 then _ else _
     rw[A5 hj]
    obtain⟨d,hd⟩:∃ d,48+j % 10=d:=⟨_,rfl⟩;rw[hd] at HG2;have f0:d<256:=by omega
    have e1:Int.tmod (j:Int) 10=(j:Int) % 10:=by rw[Ef (by omega)]
    have e2:Int.tdiv (j:Int) 10=(j:Int) / 10:=by rw[Dz (by omega)]
    have e3:IntKind.i64.wrap (48+(j:Int) % 10)=(d:Int):=by rw[A8];omega
    have e4:IntKind.u8.wrap (d:Int)=(d:Int):=by rw[Di];omega
    obtain⟨j',d0⟩:∃ j',j / 10=j':=⟨_,rfl⟩;have e5:(j:Int) / 10=(j':Int):=by omega
    have e6:IntKind.i64.wrap (j':Int)=(j':Int):=by rw[A8];omega
    rw[d0] at HG2;have c0:=Dq (P:=prog) (wr.alloc (J #[Ao .u8 (d:Int)] 5)) 22 5 Cq D9 wr.1.size 0 1 1 [(d:Int)] rfl (fun i hi=>by
     obtain rfl:i=0:=by omega
     rw[cell_of_one (Co wr _)];rfl) 9 C6
    have b0:(strOfNums [(d:Int)]).size=1:=by rw[Fx];rfl
    have m0:o.size<=1000000000:=by omega
    have HS:H ((strOfNums [(d:Int)]++o).size+j'<=k):=by show _<=_;rw[Dx,b0];omega
    have hb2:Ab w w (wr.alloc (J #[Ao .u8 (d:Int)] 5)):=a0.alloc a0.size _;generalize strOfNums [(d:Int)]=sd at c0 b0 HS HG2;clear HG hd;go_wp2
    go_roundw
    case rel=>exact⟨j',f',sd++o,by omega,HS.out,by simp[*],rfl,HG2,hb2⟩
    case measure=>simp[intOf, *] <;> omega
def jIh (w:Ad) (B E:Nat) (a:OA) (n cap:Nat) (S:Nat->BA):Prop:=jI w B a n cap S/\∀ x,a=M x->B<=x.block/\x.block<E
theorem jIh.below {w w':Ad} {B E:Nat} {a:OA} {n cap:Nat} {S:Nat->BA} (h:jIh w B E a n cap S) (hb:Ab w w w'):jIh w' B E a n cap S:=⟨h.1.below hb,h.2⟩
theorem zC.ofBelow {w w':Ad} (B E:Nat) (h:Ab w w w'):zC w w' B E:=⟨h.os,h.tape,h.output,h.size,fun j hj _=>h.block j hj⟩
theorem zC.set (w:Ad) {B E g:Nat} (j:Nat) (v:Aj) (hB:B<=g) (hE:g<E):zC w (w.setCell (Q g j I) v) B E:=⟨rfl,rfl,rfl,by simp,fun i _ hi=>Ck w (Q g j I) i v (fun e=>by have e':i=g:=e;omega)⟩
abbrev pcC (r:BA) (k n i:Int) (b:BA) (v:Aj):Array Aj:=#[Ag r,Ao Ar k,Ao Ar n,Ao Ar i,Ag b,v]
abbrev pcV (r:BA) (k n i:Int) (b:BA) (v:Aj):Aj:=Ai (pcC r k n i b v)
theorem Tryz.infoPc:(Tryz.prog.info? 29).map (·.size)=M 6:=by kernel_rfl
theorem jI.setFar {w:Ad} {B g o:Nat} {a:OA} {n c:Nat} {S:Nat->BA} {v:Aj} (h:jI w B a n c S) (hB:g<B):jI (w.setCell (Q g o I) v) B a n c S:=
 jL h (jN _ _ _ _) (fun x e=>by subst e;have:=(A0 h x.block rfl).1;omega)
theorem jE (b:Nat):∀ (vs:List Aj) (o:Nat) (w:Ad) (j:Nat),j≠b->(w.setCells b o vs).1[j]?=w.1[j]?
 | [],_,_,_,_=>rfl
 | v::r,o,w,j,h=>by rw[World.setCells,jE b r (o+1) _ j h];exact Ck w ⟨b,o,I⟩ j v h
theorem jO (b:Nat):∀ (vs:List Aj) (o:Nat) (w:Ad),(w.setCells b o vs).1.size=w.1.size
 | [],_,_=>rfl
 | v::r,o,w=>by rw[World.setCells,jO b r (o+1) _];simp
theorem qY (b:Nat):∀ (vs:List Aj) (o:Nat) (w:Ad),(w.setCells b o vs).os=w.os/\(w.setCells b o vs).tape=w.tape/\(w.setCells b o vs).output=w.output
 | [],_,_=>⟨rfl,rfl,rfl⟩
 | v::r,o,w=>by rw[World.setCells];exact qY b r (o+1) _
theorem jP {B b:Nat} {w0 w:Ad} (h:Ab B w0 w) (hB:B<=b) (o:Nat) (vs:List Aj):Ab B w0 (w.setCells b o vs):=by
 obtain⟨h1,h2,h3⟩:=qY b vs o w;exact h.trans ⟨h1,h2,h3,by rw[jO];exact Ay _,fun j hj=>jE b vs o w j (by omega)⟩
theorem jD7 (w:Ad) {F:Nat->Prop} {b:Nat} (hF:F b) (o:Nat) (vs:List Aj):Trn w (w.setCells b o vs) F:=by
 obtain⟨h1,h2,h3⟩:=qY b vs o w;exact⟨h1,h2,h3,by rw[jO];exact Ay _,fun j _ hn=>jE b vs o w j (fun e=>by subst e;exact hn hF)⟩
theorem qH {B t sz g n cap i:Nat} (hi:i<n):∀ (vs:List Aj) (q0:Nat) (w:Ad) (c:Nat->Nat->Aj),q0+vs.length=sz->w.ownsRow B t sz (V g n cap) n (cL sz c n)->(w.setCells g (i*sz+q0) vs).ownsRow B t sz (V g n cap) n (cL sz (fun i' q'=>if i'=i/\q0<=q' then vs.getD (q' - q0) O else c i' q') n):=by
 intro vs;induction vs with
 | nil=>
  intro q0 w c hq ho;have e:cL sz (fun i' q'=>if i'=i/\q0<=q' then ([]:List Aj).getD (q' - q0) O else c i' q') n=cL sz c n:=vX fun i' q' _ a0=>A5 (fun h=>by have:=h.2;simp at hq;omega)
  rw[e];exact ho
 | cons v r ih=>
  intro q0 w c hq ho;rw[World.setCells];have b0:q0<sz:=by simp at hq;omega
  have h1:=(Dh ho (i*sz+q0) v).1;rw[jFu _ _ _ _ _ _ hi b0] at h1;have h2:=ih (q0+1) _ _ (by simp at hq;omega) h1;rw[Ee];have e:cL sz (fun i' q'=>if i'=i/\q0<=q' then (v::r).getD (q' - q0) O else c i' q') n=cL sz (fun i' q'=>if i'=i/\q0+1<=q' then r.getD (q' - (q0+1)) O else if i'=i/\q'=q0 then v else c i' q') n:=vX fun i' q' _ a0=>by
   by_cases ei:i'=i
   .by_cases e1:q'=q0
    .subst e1;rw[A6 ⟨ei,Ay _⟩,A5 (by omega),A6 ⟨ei,rfl⟩,Nat.sub_self];rfl
    .by_cases e2:q0<=q'
     .obtain⟨k,rfl⟩:∃ k,q'=q0+1+k:=⟨q' - (q0+1),by omega⟩;rw[A6 ⟨ei,e2⟩,A6 ⟨ei,by omega⟩,show q0+1+k-q0=k+1 by omega,show q0+1+k-(q0+1)=k by omega];rfl
     .rw[A5 (by omega),A5 (by omega),A5 (by omega)]
   .simp[ei]
  rw[e];exact h2
theorem Ow.store {w:Ad} {B t sz g n cap i:Nat} {f:Nat->Nat->Dt} {F F':Nat->Prop} {vs:List Aj} {d:Nat->Dt} {H:Nat->Nat->Prop} (h:Ow w B (.lst t sz n f) (V g n cap) F) (hi:i<n) (hl:vs.length=sz) (hv:∀ q,q<sz->Ow w B (d q) (vs.getD q O) (H q)) (hH:∀ q x,q<sz->H q x->¬ F x) (hE:∀ q q' x,q<sz->q'<sz->H q x->H q' x->q=q') (hF:∀ x,F x->F' x) (d0:∀ q x,q<sz->H q x->F' x):Ow (w.setCells g (i*sz) vs) B (.lst t sz n (fun i'=>if i'=i then d else f i')) (V g n cap) F':=by
 obtain⟨a,f0,c,G,e,ho,hs,hr⟩:=h;cases e;have hg:=hs.head _ rfl;have e0:=qH hi vs 0 w c (by omega) ho;rw[Cp] at e0;refine⟨M (Q g 0 I),cap,_,fun i' q'=>if i'=i then H q' else G i' q',rfl,e0,⟨fun x hx=>by cases hx;exact hF _ hg,fun i' q' x c0 a0 hx=>?_,fun i' q' x c0 a0 ex hx=>?_,fun i1 q1 i2 q2 x h1 h2 h3 h4 hx b0=>?_⟩,fun i' q' c0 a0=>?_⟩
 .by_cases ei:i'=i
  .simp only[ei,C0] at hx;exact d0 _ _ a0 hx
  .simp only[ei,Dj] at hx;exact hF _ (hs.sub _ _ _ c0 a0 hx)
 .cases ex;by_cases ei:i'=i
  .simp only[ei,C0] at hx;exact hH _ _ a0 hx hg
  .simp only[ei,Dj] at hx;exact hs.apart _ _ _ c0 a0 rfl hx
 .by_cases e1:i1=i
  .by_cases e2:i2=i
   .simp only[e1,e2,C0] at hx b0;exact⟨by omega,hE _ _ _ h2 h4 hx b0⟩
   .simp only[e1,e2,C0,Dj] at hx b0;exact Bo (hs.sub _ _ _ h3 h4 b0) (hH _ _ h2 hx)
  .by_cases e2:i2=i
   .simp only[e1,e2,C0,Dj] at hx b0;exact Bo (hs.sub _ _ _ h1 h2 hx) (hH _ _ h4 b0)
   .simp only[e1,e2,Dj] at hx b0;exact hs.each _ _ _ _ _ h1 h2 h3 h4 hx b0
 .have keep:∀ {dd:Dt} {v:Aj} {K:Nat->Prop},Ow w B dd v K->(∀ x,K x->x≠g)->Ow (w.setCells g (i*sz) vs) B dd v K:=fun ho hk=>ho.frame fun x hx _=>jE g vs _ w x (hk x hx)
  by_cases ei:i'=i
  .simp only[ei,true_and,Bi,C0,Nat.sub_zero];exact keep (hv q' a0) (fun x hx e=>by subst e;exact hH _ _ a0 hx hg)
  .simp only[ei,false_and,Dj];exact keep (hr i' q' c0 a0) (fun x hx e=>by subst e;exact hs.apart _ _ _ c0 a0 rfl hx)
theorem XG {w:Ad} {B t sz g n cap:Nat} {F:Nat->Prop} {zs:List Aj} {f:Nat->Dt} (ho:w.ownsRow B t sz (V g n cap) n (cL sz (fun _ q=>zs.getD q O) n)) (hz:∀ q,q<sz->Ow w B (f q) (zs.getD q O) (fun _=>False)) (hF:F g):Ow w B (.lst t sz n (fun _=>f)) (V g n cap) F:=
 ⟨_,cap,_,fun _ _ _=>False,rfl,ho,⟨fun x e=>by cases e;exact hF,fun _ _ _ _ _ h=>h.elim,fun _ _ _ _ _ _ h=>h,fun _ _ _ _ _ _ _ _ _ h=>h.elim⟩,fun _ q _ hq=>hz q hq⟩
theorem xS {zs:List Aj} {n:Nat} (hz:0<zs.length):(madeCells zs.toArray (n*zs.length)).toList=cL zs.length (fun _ q=>zs.getD q O) n:=by
 apply Cn
 intro j;by_cases hj:j<n*zs.length
 .have h1:=jT zs.length (fun _ q=>zs.getD q O) n (j / zs.length) (j % zs.length) ((C8 hz).2 hj) (E7 _ hz);rw[vA] at h1;rw[h1];have hl:=E7 j hz;simp[madeCells,hj,hl]
 .rw[Bb (by simp[size_madeCells];omega),Bb (by rw[jY];omega)]
def jOx (w:Ad) (a:OA) (n:Nat) (S:Nat->BA):Prop:=jK w a n S/\n<=Au/\∀ i,i<n->(S i).size<=Au
theorem jL9 {w:Ad} {a:Al} {len cap m:Nat} {S:Nat->BA} (hl:len<=cap) (hm:cap<=Au) (c0:len<=m) (h:∀ i,i<m->w.cell? (a.add i)=M (Ag (S i))/\(S i).size<=Au):jOx w (M a) len S:=by
 refine⟨fun i hi=>?_,Bx hl hm,fun i hi=>(h i (by omega)).2⟩;have h1:=(h i (by omega)).1;obtain⟨b,off,b0⟩:=a;have a0:b0=I:=by
  have h0:=(h 0 (by omega)).1;simpa [Addr.add] using World.cell?_spot h0
 subst a0;have ea:∀ (b off i:Nat),((Q b off I):Al).add i=(Q b (off+i) I):=fun b off i=>by unfold Addr.add;split <;> simp_all
 rw[ea] at h1;exact⟨b,off,rfl,h1⟩
theorem jA0 (B E:Nat) (a:OA) (n cap:Nat) (S:Nat->BA) (k q:Nat) (w:Ad) (h:jIh w B E a n cap S) (hn:n<=1048576) (hk:k<=500000000) (hq:k+n=q):Ak prog 99 #[V a n cap,(k:Int)] w fun e w'=>e=Ae (q:Int)/\jIh w' B E a n cap (fun i=>xC (k+i))/\zC w w' B E:=by
 subst hq;have K0:H (jIh w B E a n cap (fun i=>if i<0 then xC (k+i) else S i)):=⟨h.1.congr (fun i _=>by simp),h.2⟩;clear h;go_enter func99,ntmps99
 go_wp2
 go_loopw [1,5] (fun p i wr=>∃ c x:Nat,c<=n/\k+c=x/\p=Ao Ar (x:Int)/\i=Ao Ar (c:Int)/\jIh wr B E a n cap (fun i=>if i<c then xC (k+i) else S i)/\zC w wr B E) (fun _ i _=>n-(intOf i).toNat)
 case atStart=>exact⟨0,k,Bi _,rfl,rfl,rfl,K0,zC.refl _ _ _⟩
 case round=>
  obtain⟨c,x,hc,hx,rfl,rfl,hR,hT⟩:=hrel;clear K0;by_cases hlt:c<n
  .have e0:(c:Int)<(n:Int):=by omega
   obtain⟨g,rfl⟩:∃ g,a=M (Q g 0 I):=by
    rcases jW hR.1 with ⟨_,h0,_⟩|⟨g,_,e,_⟩
    .omega
    .exact⟨g,e⟩
   have d0:=hR.2 _ rfl;have KR:H (jIh wr B E (Q g 0 I) n cap (fun i=>if i<c then xC (k+i) else S i)):=hR;have KT:H (zC w wr B E):=hT;clear hR hT;go_wp2_with fail
   refine(jR x _ (by omega)).mono ?_;rintro e w1 ⟨rfl,c0⟩;have a0:=KR.below c0;obtain⟨old,f0⟩:∃ v,w1.cell? (Q g c I)=M v:=by
    rw[Bt a0.1 c (by omega)];exact⟨_,zA _ _ _ hlt⟩
   have g0:=B0 a0.1 c;have b0:=Dh a0.1 c (xC x);rw[jA5 _ _ _ _ hlt] at b0;have HO:H (jIh (w1.setCell (Q g c I) (xC x)) B E (Q g 0 I) n cap (fun i=>if i<c+1 then xC (k+i) else S i)):=⟨jI.congr b0.1 (fun i _=>by
    by_cases e:i=c
    .subst e;simp[hx]
    .by_cases e2:i<c
     .simp[e,e2,show i<c+1 by omega]
     .simp[e,e2,show ¬ i<c+1 by omega]),a0.2⟩
   have HT:H (zC w (w1.setCell (Q g c I) (xC x)) B E):=(KT.trans (zC.ofBelow B E c0)).trans (zC.set w1 c _ d0.1 d0.2);generalize xC x=mx at HO HT;clear b0 a0 KR KT;go_wp2
   go_roundw
   case rel=>exact⟨c+1,x+1,by omega,by omega,by go_num,by go_num,HO.out,HT.out⟩
   case measure=>simp[intOf] <;> omega
  .obtain rfl:c=n:=by omega
   subst hx;have HR:H (jIh wr B E a c cap (fun i=>xC (k+i))):=⟨hR.1.congr (fun i hi=>A6 hi),hR.2⟩;have HT:H (zC w wr B E):=hT;clear hR hT;go_wp2
   go_ret
   exact⟨rfl,HR,HT⟩
theorem Ow.put {w:Ad} {B t sz g n cap i:Nat} {f:Nat->Nat->Dt} {F F':Nat->Prop} {vs:List Aj} {d:Nat->Dt} {H:Nat->Nat->Prop} (h:Ow w B (.lst t sz n f) (V g n cap) F) (hi:i<n) (hl:vs.length=sz) (hv:∀ q,q<sz->(d q=f i q/\w.cell? (Q g (i*sz+q) I)=M (vs.getD q O))\/(Ow w B (d q) (vs.getD q O) (H q)/\∀ x,H q x->¬ F x)) (hE:∀ q q' x,q<sz->q'<sz->H q x->H q' x->q=q') (hF:∀ x,F x->F' x) (d0:∀ q x,q<sz->H q x->F' x):Ow (w.setCells g (i*sz) vs) B (.lst t sz n (fun i'=>if i'=i then d else f i')) (V g n cap) F':=by
 obtain⟨a,g0,c,G,e,ho,hs,hr⟩:=h;cases e;have hg:=hs.head _ rfl;have e0:=qH hi vs 0 w c (by omega) ho;rw[Cp] at e0;have hK:∀ q,∃ K:Nat->Prop,q<sz->Ow w B (d q) (vs.getD q O) K/\((∀ x,K x->G i q x)\/(∀ x,K x->H q x/\¬ F x)):=fun q=>by
  by_cases hq:q<sz
  .rcases hv q hq with ⟨e1,e2⟩|⟨e1,e2⟩
   .refine⟨G i q,fun _=>⟨?_,.inl fun x hx=>hx⟩⟩;have h1:w.cell? (Q g (i*sz+q) I)=M (c i q):=by rw[Bt ho _ (qM hi hq)];exact jT _ _ _ _ _ hi hq
    rw[h1] at e2;rw[<-En e2,e1];exact hr i q hi hq
   .exact⟨H q,fun _=>⟨e1,.inr fun x hx=>⟨hx,e2 x hx⟩⟩⟩
  .exact⟨fun _=>False,fun k=>Bo k hq⟩
 obtain⟨K,hK⟩:=Ex hK;have kF:∀ q x,q<sz->K q x->F' x:=fun q x hq hx=>by
  rcases (hK q hq).2 with k|k
  .exact hF _ (hs.sub _ _ _ hi hq (k x hx))
  .exact d0 _ _ hq (k x hx).1
 have kg:∀ q,q<sz->¬ K q g:=fun q hq hx=>by
  rcases (hK q hq).2 with k|k
  .exact hs.apart _ _ _ hi hq rfl (k g hx)
  .exact(k g hx).2 hg
 have kE:∀ q q' x,q<sz->q'<sz->K q x->K q' x->q=q':=fun q q' x hq b0 hx a0=>by
  rcases (hK q hq).2 with k|k <;> rcases (hK q' b0).2 with k'|k'
  .exact(hs.each _ _ _ _ _ hi hq hi b0 (k x hx) (k' x a0)).2
  .exact Bo (hs.sub _ _ _ hi hq (k x hx)) (k' x a0).2
  .exact Bo (hs.sub _ _ _ hi b0 (k' x a0)) (k x hx).2
  .exact hE _ _ _ hq b0 (k x hx).1 (k' x a0).1
 have kO:∀ q i2 q2 x,q<sz->i2<n->q2<sz->i2≠i->K q x->¬ G i2 q2 x:=fun q i2 q2 x hq h2 h3 f0 hx a0=>by
  rcases (hK q hq).2 with k|k
  .exact f0 (hs.each _ _ _ _ _ h2 h3 hi hq a0 (k x hx)).1
  .exact(k x hx).2 (hs.sub _ _ _ h2 h3 a0)
 refine⟨M (Q g 0 I),cap,_,fun i' q'=>if i'=i then K q' else G i' q',rfl,e0,⟨fun x hx=>by cases hx;exact hF _ hg,fun i' q' x c0 b0 hx=>?_,fun i' q' x c0 b0 ex hx=>?_,fun i1 q1 i2 q2 x h1 h2 h3 h4 hx a0=>?_⟩,fun i' q' c0 b0=>?_⟩
 .by_cases ei:i'=i
  .simp only[ei,C0] at hx;exact kF _ _ b0 hx
  .simp only[ei,Dj] at hx;exact hF _ (hs.sub _ _ _ c0 b0 hx)
 .cases ex;by_cases ei:i'=i
  .simp only[ei,C0] at hx;exact kg _ b0 hx
  .simp only[ei,Dj] at hx;exact hs.apart _ _ _ c0 b0 rfl hx
 .by_cases e1:i1=i
  .by_cases e2:i2=i
   .simp only[e1,e2,C0] at hx a0;exact⟨by omega,kE _ _ _ h2 h4 hx a0⟩
   .simp only[e1,e2,C0,Dj] at hx a0;exact Bo a0 (kO _ _ _ _ h2 h3 h4 e2 hx)
  .by_cases e2:i2=i
   .simp only[e1,e2,C0,Dj] at hx a0;exact Bo hx (kO _ _ _ _ h4 h1 h2 e1 a0)
   .simp only[e1,e2,Dj] at hx a0;exact hs.each _ _ _ _ _ h1 h2 h3 h4 hx a0
 .have keep:∀ {dd:Dt} {v:Aj} {K:Nat->Prop},Ow w B dd v K->(∀ x,K x->x≠g)->Ow (w.setCells g (i*sz) vs) B dd v K:=fun ho hk=>ho.frame fun x hx _=>jE g vs _ w x (hk x hx)
  by_cases ei:i'=i
  .simp only[ei,true_and,Bi,C0,Nat.sub_zero];exact keep (hK q' b0).1 (fun x hx e=>by subst e;exact kg _ b0 hx)
  .simp only[ei,false_and,Dj];exact keep (hr i' q' c0 b0) (fun x hx e=>by subst e;exact hs.apart _ _ _ c0 b0 rfl hx)
def MkS (w:Ad) (B t sz g n cap:Nat) (G:Nat->Nat->Nat->Prop) (D:Nat->Nat->Dt):Prop:=
 ∃ c,w.ownsRow B t sz (V g n cap) n (cL sz c n)/\∀ i q,i<n->q<sz->Ow w B (D i q) (c i q) (G i q)
theorem Ow.mk {w:Ad} {B t sz g n cap:Nat} {D:Nat->Nat->Dt} {F:Nat->Prop} (h:Ow w B (.lst t sz n D) (V g n cap) F):∃ G,Sep g n sz G F/\MkS w B t sz g n cap G D:=by
 obtain⟨a,a0,c,G,e,ho,hs,hr⟩:=h;cases e;exact⟨G,hs,c,ho,hr⟩
theorem MkS.ow {w:Ad} {B t sz g n cap:Nat} {G:Nat->Nat->Nat->Prop} {D:Nat->Nat->Dt} {F:Nat->Prop} (h:MkS w B t sz g n cap G D) (hs:Sep g n sz G F):Ow w B (.lst t sz n D) (V g n cap) F:=by
 obtain⟨c,ho,hr⟩:=h;exact⟨_,cap,c,G,rfl,ho,hs,hr⟩
theorem MkS.below {w w':Ad} {B t sz g n cap:Nat} {G:Nat->Nat->Nat->Prop} {D:Nat->Nat->Dt} (h:MkS w B t sz g n cap G D) (hb:Ab w w w'):MkS w' B t sz g n cap G D:=by
 obtain⟨c,ho,hr⟩:=h;exact⟨c,jF ho hb,fun i q hi hq=>(hr i q hi hq).below hb⟩
theorem MkS.congr {w:Ad} {B t sz g n cap:Nat} {G:Nat->Nat->Nat->Prop} {D D':Nat->Nat->Dt} (h:MkS w B t sz g n cap G D) (e:∀ i q,i<n->q<sz->D i q=D' i q):MkS w B t sz g n cap G D':=by
 obtain⟨c,ho,hr⟩:=h;exact⟨c,ho,fun i q hi hq=>by rw[<-e i q hi hq];exact hr i q hi hq⟩
theorem MkS.lt {w:Ad} {B t sz g n cap:Nat} {G:Nat->Nat->Nat->Prop} {D:Nat->Nat->Dt} (h:MkS w B t sz g n cap G D):B<=g/\g<w:=by
 obtain⟨c,ho,hr⟩:=h;exact A0 ho g rfl
theorem MkS.cell {w:Ad} {B t sz g n cap:Nat} {G:Nat->Nat->Nat->Prop} {D:Nat->Nat->Dt} (h:MkS w B t sz g n cap G D) {i q:Nat} (hi:i<n) (hq:q<sz):∃ v,w.cell? (Q g (i*sz+q) I)=M v/\w.frozen? (Q g (i*sz+q) I)=Av/\Ow w B (D i q) v (G i q):=by
 obtain⟨c,ho,hr⟩:=h;exact⟨c i q,by rw[Bt ho _ (qM hi hq)];exact jT _ _ _ _ _ hi hq,B0 ho _,hr i q hi hq⟩
theorem MkS.set {w:Ad} {B t sz g n cap:Nat} {G:Nat->Nat->Nat->Prop} {D:Nat->Nat->Dt} {F:Nat->Prop} (h:MkS w B t sz g n cap G D) (hs:Sep g n sz G F) {i q:Nat} (hi:i<n) (hq:q<sz) (v:Aj):MkS (w.setCell (Q g (i*sz+q) I) v) B t sz g n cap G (fun i' q'=>if i'=i/\q'=q then .val v else D i' q'):=by
 obtain⟨c,ho,hr⟩:=h;have h1:=(Dh ho (i*sz+q) v).1;rw[jFu _ _ _ _ _ _ hi hq] at h1;refine⟨_,h1,fun i' q' a0 b0=>?_⟩;by_cases e:i'=i/\q'=q
 .simp only[e,and_self,C0];rfl
 .simp only[e,Dj];exact(hr i' q' a0 b0).frame fun x hx _=>Ck w (Q g (i*sz+q) I) x v (fun ex=>by
   have c0:=ex;subst c0;exact hs.apart i' q' _ a0 b0 rfl hx)
theorem MkS.turn {w w':Ad} {B t sz g n cap:Nat} {G:Nat->Nat->Nat->Prop} {D:Nat->Nat->Dt} {F:Nat->Prop} (h:MkS w B t sz g n cap G D) (hs:Sep g n sz G F) {i q:Nat} (hi:i<n) (hq:q<sz) {v:Aj} {d:Dt} (hc:w.cell? (Q g (i*sz+q) I)=M v) (e0:Ow w' B d v (G i q)) (ht:Trn w w' (G i q)):MkS w' B t sz g n cap G (fun i' q'=>if i'=i/\q'=q then d else D i' q'):=by
 obtain⟨c,ho,hr⟩:=h;have hv:c i q=v:=by
  rw[Bt ho _ (qM hi hq),jT _ _ _ _ _ hi hq] at hc;exact En hc
 have hg:=A0 ho g rfl;refine⟨c,⟨ho.1,?_⟩,fun i' q' b0 c0=>?_⟩
 .rcases ho.2 with h'|⟨g',a0,d0,h1,h2,h3,h4⟩
  .exact .inl h'
  .refine .inr ⟨g',a0,d0,h1,h2,?_,h4⟩;have e:g'=g:=by cases h1;rfl
   subst e;rw[ht.block g' hg.2 (hs.apart i q _ hi hq rfl)];exact h3
 .by_cases e:i'=i/\q'=q
  .simp only[e,and_self,C0];rw[hv];exact e0
  .simp only[e,Dj];exact(hr i' q' b0 c0).turned ht fun x hx f0=>e (hs.each i' q' i q x b0 c0 hi hq hx f0)
theorem QM (B:Nat) (v:Aj) (m:Nat) (S:Nat->BA) (k q:Nat) (F:Nat->Prop) (w:Ad) (h:Ow w B (txD m S) v F) (hn:m<=1048576) (hk:k<=500000000) (hq:k+m=q):Ak prog 99 #[v,(k:Int)] w fun e w'=>e=Ae (q:Int)/\Ow w' B (txD m (fun i=>xC (k+i))) v F/\Trn w w' F:=by
 obtain⟨a,cap,rfl,ho,hF⟩:=jGu h;cases a with
 | none=>
  refine(jA0 B B I m cap S k q w ⟨ho,fun x e=>by cases e⟩ hn hk hq).mono ?_;rintro e w' ⟨rfl,hR,hT⟩;exact⟨rfl,xP hR.1 (fun x e=>by cases e),Trn.ofM hT (fun g h1 h2=>Bo h1 (by omega))⟩
 | some x=>
  have hx:x=(Q x.block 0 I):=by
   rcases jW ho with ⟨h0,_⟩|⟨g,b0,e,_⟩
   .cases h0
   .cases e;rfl
  have hB:=(A0 ho x.block (by rw[hx];rfl)).1;have c0:jIh w x.block (x.block+1) (M x) m cap S:=by
   refine⟨⟨ho.1,?_⟩,fun y e=>by cases e;exact⟨Ay _,by omega⟩⟩;rcases ho.2 with h'|⟨g',a0,b0,h',_,hr⟩
   .exact .inl h'
   .exact .inr ⟨g',a0,b0,h',by cases h';exact Ay _,hr⟩
  refine(jA0 x.block (x.block+1) (M x) m cap S k q w c0 hn hk hq).mono ?_;rintro e w' ⟨rfl,hR,hT⟩;exact⟨rfl,xP (jI.base hR.1 hB) (fun y e=>by cases e;exact hF _ rfl),Trn.ofM hT (fun g h1 h2=>(show g=x.block by omega)▸hF _ rfl)⟩
theorem jEh (sz:Nat) (c:Nat->Nat->Aj) (n:Nat) (vs:List Aj) (hz:0<sz) (hl:vs.length=sz):cL sz c n++vs=cL sz (fun i q=>if i=n then vs.getD q O else c i q) (n+1):=by
 apply Cn
 intro j;by_cases hj:j<(n+1)*sz
 .have hd:j / sz<n+1:=(C8 hz).2 hj;have hm:j % sz<sz:=E7 _ hz;have h2:=jT sz (fun i q=>if i=n then vs.getD q O else c i q) (n+1) (j / sz) (j % sz) hd hm;rw[vA] at h2;rw[h2];by_cases hn:j<n*sz
  .have a0:j / sz<n:=(C8 hz).2 hn;have h1:=jT sz c n (j / sz) (j % sz) a0 hm;rw[vA] at h1;rw[Ea (by rw[jY];exact hn),h1,A5 (by omega)]
  .have a0:j / sz=n:=by
    have:n<=j / sz:=(Nat.le_div_iff_mul_le hz).2 (by omega)
    omega
   have he:=@vA sz j;rw[a0] at he;rw[Ds (by rw[jY];omega),jY,A6 a0];rw[show j-n*sz=j % sz by omega,Bj (by omega),Bw,Bj (by omega)];rfl
 .have e:(n+1)*sz=n*sz+sz:=F5 n sz;rw[Bb (by rw[Fd,jY];omega),Bb (by rw[jY];omega)]
theorem jAc {w w':Ad} {B t sz n g cap cp:Nat} {a:OA} {c:Nat->Nat->Aj} {G:Nat->Nat->Nat->Prop} {f:Nat->Nat->Dt} {F F':Nat->Prop} {vs:List Aj} {d:Nat->Dt} {H:Nat->Nat->Prop} (hz:0<sz) (hs:Sep a n sz G F) (hr:∀ i q,i<n->q<sz->Ow w B (f i q) (c i q) (G i q)) (hl:vs.length=sz) (hv:∀ q,q<sz->Ow w B (d q) (vs.getD q O) (H q)) (hH:∀ q x,q<sz->H q x->¬ F x) (hE:∀ q q' x,q<sz->q'<sz->H q x->H q' x->q=q') (h2:w'.ownsRow B t sz (V g (n+1) cap) (n+1) (cL sz c n++vs)) (h3:w.grownBy w' (V a n cp).ownBlock) (h4:(V a n cp).ownBlock=M g\/g=w.1.size) (hF:∀ x,F x->x<w.1.size->F' x) (e0:∀ q x,q<sz->H q x->x<w.1.size->F' x) (hg:F' g):Ow w' B (.lst t sz (n+1) (fun i=>if i=n then d else f i)) (V g (n+1) cap) F':=by
 rw[jEh sz c n vs hz hl] at h2;have d0:∀ x,x<w.1.size->(∀ y,a=M y->x≠y.block)->w'.1[x]?=w.1[x]?:=fun x hx hy=>h3.block x hx fun e=>by
  cases a with
  | none=>cases e
  | some y=>exact hy y rfl (by injection e)
 have f0:∀ x,x<w.1.size->g=x->∃ y,a=M y/\y.block=x:=fun x hx e=>by
  rcases h4 with h4|h4
  .cases a with
   | none=>cases h4
   | some y=>exact⟨y,rfl,by injection h4 with h4;omega⟩
  .omega
 refine⟨_,cap,_,fun i q x=>(if i=n then H q x else G i q x)/\B<=x/\x<w.1.size,rfl,h2,⟨fun x hx=>by cases hx;exact hg,fun i q x hi hq hx=>?_,fun i q x hi hq ex hx=>?_,fun i q i' q' x hi hq g0 c0 hx a0=>?_⟩,fun i q hi hq=>?_⟩
 .obtain⟨hx,_,b0⟩:=hx;by_cases e:i=n
  .rw[A6 e] at hx;exact e0 q x hq hx b0
  .rw[A5 e] at hx;exact hF x (hs.sub i q x (by omega) hq hx) b0
 .cases ex;obtain⟨hx,_,b0⟩:=hx;obtain⟨y,ey,eb⟩:=f0 g b0 rfl;by_cases e:i=n
  .rw[A6 e] at hx;exact hH q g hq hx (eb▸hs.head y ey)
  .rw[A5 e] at hx;exact hs.apart i q y (by omega) hq ey (eb▸hx)
 .obtain⟨hx,_⟩:=hx;obtain⟨a0,_⟩:=a0;by_cases e:i=n <;> by_cases e':i'=n
  .rw[A6 e] at hx;rw[A6 e'] at a0;exact⟨e.trans e'.symm,hE q q' x hq c0 hx a0⟩
  .rw[A6 e] at hx;rw[A5 e'] at a0;exact Bo (hs.sub i' q' x (by omega) c0 a0) (hH q x hq hx)
  .rw[A5 e] at hx;rw[A6 e'] at a0;exact Bo (hs.sub i q x (by omega) hq hx) (hH q' x c0 a0)
  .rw[A5 e] at hx;rw[A5 e'] at a0;exact hs.each i q i' q' x (by omega) hq (by omega) c0 hx a0
 .by_cases e:i=n
  .simp only[e,C0];refine(hv q hq).cut.frame fun x hx b0=>d0 x b0 fun y ey eb=>hH q x hq hx.1 (eb▸hs.head y ey)
  .simp only[e,Dj];refine(hr i q (by omega) hq).cut.frame fun x hx b0=>d0 x b0 fun y ey eb=>hs.apart i q y (by omega) hq ey (eb▸hx.1)
theorem xJ {P:Program} (w:Ad) {i0:Array Oper} {f0:List Oper} {o:Oper} {a:Act} {Q:Exit->Act->Ad->Prop} (m0:o.guard=I) (s x:Operand) (t:TypeId)
  (ho:o.op=.call {callee:=.builtin .append,args:=#[s,x],argTypes:=#[t,t]})
  (B:Nat) (e:TypeId) (i:TypeInfo) (z:Aj) (size b0:Nat) (ht:P.underlying t=M (.slice e)) (hi:P.info? e=M i) (hz:i.zero=M z)
  (g0:i.size=size) (k0:i.bytes=b0) (p0:z.cells.size=size) (h0:0<size)
  (v:Aj) (n:Nat) (f:Nat->Nat->Dt) (F:Nat->Prop) (hs:a.eval s=v) (hO:Ow w B (.lst e size n f) v F)
  (ad:Al) (c:Nat) (vs:List Aj) (hx:a.eval x=V (M ad) 1 c) (hl:vs.length=size) (o0:∀ j u,vs[j]?=M u->w.cell? (ad.add j)=M u) (h1:∀ u∈vs,u.oneCell'=Aw)
  (d:Nat->Dt) (H:Nat->Nat->Prop) (hv:∀ q,q<size->Ow w B (d q) (vs.getD q O) (H q)) (hH:∀ q x,q<size->H q x->¬ F x) (hE:∀ q q' x,q<size->q'<size->H q x->H q' x->q=q')
  (j0:n+1<=Au) (c0:(n+1)*b0<=140737488355328) (hB:B<=w)
  (h:∀ g cap w',Ow w' B (.lst e size (n+1) (fun i=>if i=n then d else f i)) (V (Addr.mk g 0 I) (n+1) cap) (fun x=>x<w'.1.size/\((F x\/∃ q,q<size/\H q x)\/w.1.size<=x))->Ab B w w'->(∀ x,x<w.1.size->¬ F x->w'.1[x]?=w.1[x]?)->wpList P i0 Q f0 (a.put o.dst (V (Addr.mk g 0 I) (n+1) cap)) w') :
  wpList P i0 Q (o::f0) a w:=by
 obtain⟨a0,cp,cc,G,rfl,d0,e0,hr⟩:=hO;refine Dc w m0 s x t ho B e i z size b0 ht hi hz g0 k0 p0 h0 _ n _ hs d0 ad 1 c vs hx (by omega) o0 h1 (by omega) j0 c0 hB w rfl fun g cap w' h2 h3 h4 h5=>?_
 have q0:=h3.size;have hk:∀ k,(V a0 n cp).ownBlock=M k->F k/\B<=k/\k<w.1.size:=fun k ek=>by
  cases a0 with
  | none=>cases ek
  | some y=>
   have e1:y.block=k:=by injection ek
   subst e1;exact⟨e0.head y rfl,A0 d0 y.block rfl⟩
 refine h g cap w' (jAc h0 e0 hr hl hv hH hE h2 h3 h4 (fun x hx n0=>⟨by omega,.inl (.inl hx)⟩) (fun q x hq hx n0=>⟨by omega,.inl (.inr ⟨q,hq,hx⟩)⟩) ⟨h5,?_⟩) ((Az _ _).grown h3 hB fun k ek=>(hk k ek).2.1) fun x hx hn=>h3.block x hx fun ek=>hn (hk x ek.symm).1
 rcases h4 with h4|h4
 .exact .inl (.inl (hk g h4).1)
 .exact .inr (by omega)
def jQb (r b:BA) (m:Nat) (S:Nat->BA) (l:Nat):Int:=if r.size+b.size<=l then szF (fun i=>(S i).size) m (l-r.size-b.size) else -1
theorem jNe {r b:BA} {m:Nat} {S:Nat->BA} {l:Nat} (h:r.size+b.size+(m+tot (fun i=>(S i).size) m)<=l):jQb r b m S l=((l-(r.size+b.size+(m+tot (fun i=>(S i).size) m)):Nat):Int):=by
 unfold jQb szF;rw[A6 (by omega),A6 (by omega)];omega
theorem jQc {r b:BA} {m:Nat} {S:Nat->BA} {l:Nat} (h:¬ r.size+b.size+(m+tot (fun i=>(S i).size) m)<=l):jQb r b m S l = -1:=by
 unfold jQb szF;by_cases h1:r.size+b.size<=l
 .rw[A6 h1,A5 (by omega)]
 .rw[A5 h1]
theorem jGn (r:BA) (k n i:Int) (b:BA) (a:OA) (m cap:Nat) (S:Nat->BA) (l:Nat) (w:Ad) (h:jK w a m S) (hl:l<=1048576) (hm:m<=Au) (hL:∀ i,i<m->(S i).size<=Au) (hr:r.size<=Au) (hb:b.size<=Au):CB 143 #[pcV r k n i b (V a m cap),(l:Int)] w (jQb r b m S l):=by
 obtain⟨w0,a0⟩:=nmH (w.alloc (J (pcC r k n i b (V a m cap)) 64));have c0:=bl1 a0;have b0:=hd c0;have KT:=hd (h.below c0);obtain⟨x,hx⟩:∃ x,r.size=x:=⟨_,rfl⟩;obtain⟨y,hy⟩:∃ x,b.size=x:=⟨_,rfl⟩;unfold jQb;rw[hx,hy];unfold Au at hr hb;clear h c0;by_cases h1:l<x
 .have f0:(l:Int)-(x:Int)<0:=by omega
  have e1:IntKind.i64.wrap ((l:Int)-(x:Int))=(l:Int)-(x:Int):=by rw[A8];omega
  rw[A5 (by omega)];clear hL;go_enter func143,ntmps143
  go_wp2
  go_ret
  exact⟨rfl,by rw[<-a0.out];exact b0⟩
 obtain⟨l1,d0⟩:∃ l1,l=x+l1:=⟨l-x,by omega⟩;have e1:IntKind.i64.wrap ((l:Int)-(x:Int))=(l1:Int):=by rw[A8];omega
 have p1:¬ ((l1:Int)<0):=by omega
 by_cases h2:l1<y
 .have g0:(l1:Int)-(y:Int)<0:=by omega
  have e2:IntKind.i64.wrap ((l1:Int)-(y:Int))=(l1:Int)-(y:Int):=by rw[A8];omega
  rw[A5 (by omega)];clear hL d0;go_enter func143,ntmps143
  go_wp2
  go_ret
  exact⟨rfl,by rw[<-a0.out];exact b0⟩
 obtain⟨l2,e0⟩:∃ l2,l1=y+l2:=⟨l1-y,by omega⟩;have e2:IntKind.i64.wrap ((l1:Int)-(y:Int))=(l2:Int):=by rw[A8];omega
 have p2:¬ ((l2:Int)<0):=by omega
 rw[A6 (by omega),show l-x-y=l2 by omega];have KZ:=hd (jQd a m cap S l2 w0 KT (by omega) hm hL);clear hL d0 e0;by_cases h3:m+tot (fun i=>(S i).size) m<=l2
 obtain⟨z,hz⟩:∃ z:Nat,szF (fun i=>(S i).size) m l2=(z:Int):=⟨l2-(m+tot (fun i=>(S i).size) m),by unfold szF;rw[A6 h3]⟩;rw[hz] at KZ |-;have p3:¬ ((z:Int)<0):=by omega
 rotate_left;have hz:szF (fun i=>(S i).size) m l2 = -1:=by unfold szF;rw[A5 h3]
 rw[hz] at KZ |-;rotate_left;all_goals
  clear hz h3;go_enter func143,ntmps143
  go_wp2_with fail
  rw[<-a0.out];refine Ax KZ.out ?_;rintro e w' ⟨rfl,hw⟩;obtain rfl:=hw.symm;clear hw;go_wp2
  go_ret
  exact⟨rfl,b0⟩
theorem jGp (r:BA) (k n i:Int) (b:BA) (a:OA) (m cap:Nat) (S:Nat->BA) (w:Ad) (h:jK w a m S) (hm:m<=1048576):Ak prog 145 #[pcV r k n i b (.slice a m cap)] w fun e w'=>∃ g,e=Ae (pcV r k n i b (.slice (Q g 0 I) m m))/\jI w' w (Q g 0 I) m m S/\Ab w w w':=by
 obtain⟨D,HD⟩:=nmH (w.1.size+1);obtain⟨V,HV⟩:=nmH (w.1.size+1+1);obtain⟨w0,e0⟩:=nmH (((w.alloc (J (pcC r k n i b (.slice a m cap)) 64)).alloc (J (pcC ⟨#[]⟩ 0 0 0 ⟨#[]⟩ (.slice I 0 0)) 29)).alloc (J (pcC r k n i b (.slice I 0 0)) 29));have m0:=xR e0 HV;have k0:=xL e0 HD;have j0:=bl3 e0;have i0:H (V≠D/\w.1.size<=D/\w.1.size<=V):=by
  have:=HV.out;have:=HD.out;exact⟨by omega,by omega,by omega⟩
 have h0:H (Ab w w w0):=j0;have KT:H (Ak prog 174 #[.slice a m cap] w0 fun e w'=>e=Ae (.slice (Q w0 0 I) m m)/\jI w' w0 (Q w0 0 I) m m S/\Ab w0 w0 w'):=jQg a m cap S w0 (h.below j0) hm;obtain⟨g,HG⟩:=nmH w0.1.size;rw[<-HG.out] at KT;clear h j0;go_enter func145,ntmps145
 go_wp2_with fail
 rw[<-e0.out,<-HV.out,<-HD.out];rw[HG.out] at KT;refine Ax KT.out ?_;rw[<-HG.out];rintro e w1 ⟨rfl,O1,b1⟩;have n0:=m0.lt;have b0:=k0.lt;have g0:H (Row w1 V 29 (pcC r k n i b (.slice I 0 0))):=m0.below (HG.out▸b1) n0;have o0:H (Row w1 D 29 (pcC ⟨#[]⟩ 0 0 0 ⟨#[]⟩ (.slice I 0 0))):=k0.below (HG.out▸b1) b0;obtain⟨w2,d0⟩:=nmH (w1.setCell (Q V 5 I) (.slice (Q g 0 I) m m));have p0:H (Row w2 V 29 (pcC r k n i b (.slice (Q g 0 I) m m))):=by show Row _ _ _ _;rw[d0.out];exact g0.set 5 _
 have a0:H (Row w2 D 29 (pcC ⟨#[]⟩ 0 0 0 ⟨#[]⟩ (.slice I 0 0))):=by show Row _ _ _ _;rw[d0.out];exact o0.other 5 _ (Ci i0.1)
 have O2:H (jI w2 w0 (Q g 0 I) m m S):=by show jI _ _ _ _ _ _;rw[d0.out];exact jI.setFar (HG.out▸O1) n0
 have q0:H (Ab w w w2):=by show Ab _ _ _;rw[d0.out];exact(h0.trans ((HG.out▸b1:Ab w0 w0 w1).mono h0.size)).setCell i0.2.2 _
 have v5:=g0.cell 5;have vf:=g0.free 5;simp at v5;clear b1 O1 KT;go_wp2_with (rw[<-d0.out];refine Bg rfl 29 _ rfl V rfl 29 _ (0,0) _ p0 underlying29 rfl Tryz.infoPc ?_;clear v5 vf;have x0:=a0.out.cell 0;have x1:=a0.cell 1;have x2:=a0.cell 2;have x3:=a0.cell 3;have x4:=a0.cell 4;have x5:=a0.cell 5;have f0:=a0.free 0;have f1:=a0.free 1;have f2:=a0.free 2;have f3:=a0.free 3;have f4:=a0.free 4;have f5:=a0.free 5;simp at x0 x1 x2 x3 x4 x5)
 have ZR:H (Row ((((((w2.setCell D r).setCell (Q D 1 I) k).setCell (Q D 2 I) n).setCell (Q D 3 I) i).setCell (Q D 4 I) b).setCell (Q D 5 I) (.slice (Q g 0 I) m m)) D 29 (pcC r k n i b (.slice (Q g 0 I) m m))):=(((((a0.set 0 _).set 1 _).set 2 _).set 3 _).set 4 _).set 5 _;have ZO:H (jI ((((((w2.setCell D r).setCell (Q D 1 I) k).setCell (Q D 2 I) n).setCell (Q D 3 I) i).setCell (Q D 4 I) b).setCell (Q D 5 I) (.slice (Q g 0 I) m m)) w (Q g 0 I) m m S):=jI.base (jI.setFar (jI.setFar (jI.setFar (jI.setFar (jI.setFar (jI.setFar O2 b0) b0) b0) b0) b0) b0) h0.size;have c0:=i0.2.1;refine B7 (v:=pcV r k n i b (.slice (Q g 0 I) m m)) (Cs results145 _ _ D 29 _ (0,0) _ (by simp) ZR underlying29 rfl Tryz.infoPc) rfl ⟨g,rfl,ZO,?_⟩;exact Bn (Bn (Bn (Bn (Bn (Bn q0 c0 _) c0 _) c0 _) c0 _) c0 _) c0 _
theorem jCw (r:BA) (k n i:Int) (b:BA) (a a':OA) (m ca a0:Nat) (S:Nat->BA) (w:Ad) (h:jK w a m S) (h':jK w a' m S) (hm:m<=1048576):CB 147 #[pcV r k n i b (V a m ca),pcV r k n i b (V a' m a0)] w Aw:=by
 obtain⟨w0,c0⟩:=nmH ((w.alloc (J (pcC r k n i b (V a m ca)) 29)).alloc (J (pcC r k n i b (V a' m a0)) 29));have b0:=bl2 c0;have d0:=hd b0;have KE:H _:=jLx a a' m ca a0 S w0 (h.below b0) (h'.below b0) hm;have e0:(r.toList !=r.toList)=Av:=by simp
 have f0:=vC r;have g0:(b.toList !=b.toList)=Av:=by simp
 have h0:=vC b;have i0:(k !=k)=Av:=by simp
 have j0:(n !=n)=Av:=by simp
 have k0:(i !=i)=Av:=by simp
 go_enter func147,ntmps147
 go_wp2_with fail
 rw[<-c0.out];refine Ax KE.out ?_;rintro e w1 ⟨rfl,b1⟩;go_wp2
 go_ret
 exact⟨rfl,jA d0 b1⟩
theorem Ow.putRow {w:Ad} {B t sz g n cap k:Nat} {f:Nat->Nat->Dt} {F:Nat->Prop} (h:Ow w B (.lst t sz n f) (V g n cap) F) (hk:k<n) (vs:List Aj) (hl:vs.length=sz) (d:Nat->Dt) (H:Nat->Nat->Prop) (hv:∀ q,q<sz->Ow w B (d q) (vs.getD q O) (H q)) (hH:∀ q x,q<sz->H q x->¬ F x) (d0:∀ q q' x,q<sz->q'<sz->H q x->H q' x->q=q'):Ow (w.setCells g (k*sz) vs) B (.lst t sz n (fun i q=>if i=k then d q else f i q)) (V g n cap) (fun x=>F x\/∃ q,q<sz/\H q x):=by
 obtain⟨a,e0,c,G,e,ho,hs,hr⟩:=h;cases e;have hg:F g:=hs.head _ rfl;have c0:=qH hk vs 0 w c (by omega) ho;rw[Cp] at c0;refine⟨_,_,_,fun i q=>if i=k then H q else G i q,rfl,c0,⟨fun x hx=>.inl (hs.head x hx),fun i q x hi hq hx=>?_,fun i q x hi hq hx k9=>?_,fun i q i' q' x hi hq b0 a0 h1 h2=>?_⟩,fun i q hi hq=>?_⟩
 .by_cases e:i=k
  .rw[A6 e] at hx;exact .inr ⟨q,hq,hx⟩
  .rw[A5 e] at hx;exact .inl (hs.sub i q x hi hq hx)
 .cases hx;by_cases e:i=k
  .rw[A6 e] at k9;exact hH q g hq k9 hg
  .rw[A5 e] at k9;exact hs.apart i q _ hi hq rfl k9
 .by_cases e:i=k
  .rw[A6 e] at h1;by_cases e':i'=k
   .rw[A6 e'] at h2;exact⟨e.trans e'.symm,d0 q q' x hq a0 h1 h2⟩
   .rw[A5 e'] at h2;exact Bo (hs.sub i' q' x b0 a0 h2) (hH q x hq h1)
  .rw[A5 e] at h1;by_cases e':i'=k
   .rw[A6 e'] at h2;exact Bo (hs.sub i q x hi hq h1) (hH q' x a0 h2)
   .rw[A5 e'] at h2;exact hs.each i q i' q' x hi hq b0 a0 h1 h2
 .by_cases e:i=k
  .subst e;have h1:=(hv q hq).frame (w':=w.setCells g (i*sz) vs) fun x hx _=>jE g _ _ w x (fun e=>hH q x hq hx (by rw[e];exact hg))
   simpa using h1
  .simp only[e,Dj,false_and];exact(hr i q hi hq).frame fun x hx _=>jE g _ _ w x (fun e=>hs.apart i q _ hi hq rfl (by rw[<-e];exact hx))
end Go.Proofs.YtcaejlalnjnifaaGreat
