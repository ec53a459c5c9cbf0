import Derived.Test.YtcaejlalnjnifaaGreatP11
import Derived.Test.YtcaejlalnjnifaaGreatP5
import Derived.Deep.AppendSrc
set_option maxHeartbeats 8000000
set_option maxRecDepth 2000
open Go.Value renaming slice->V
open Option renaming none->I,some->M
open Go.RowKit renaming Hid->H,Below->Ab
open Go.Addr renaming mk->Q
open Go renaming undef->O,World->Ad,Value->Aj,Addr->Al,maxLen->Au
open Go.Obj renaming cells->J
open Bool renaming false->Av,true->Aw
open Go.ChangeShapes Go.WideShapes Go.ChangeAt Go.RowKit
namespace Go.Proofs.YtcaejlalnjnifaaGreat
theorem jQj {P:Program} (w:Ad) {o:Oper} {a:Act} {K:Act->Ad->Prop} {Q:Exit->Act->Ad->Prop} (s x:Operand) (t:TypeId)
  (ho:o.op=.call {callee:=.builtin .append,args:=#[s,x],argTypes:=#[t,t]})
  (B:Nat) (e:TypeId) (i:TypeInfo) (z:Aj) (size b0:Nat) (ht:P.underlying t=M (.slice e)) (hi:P.info? e=M i) (hz:i.zero=M z)
  (f0:i.size=size) (i0:i.bytes=b0) (m0:z.cells.size=size) (g0:0<size)
  (v:Aj) (n:Nat) (f:Nat->Nat->Dt) (F:Nat->Prop) (hs:a.eval s=v) (hO:Ow w B (.lst e size n f) v F)
  (ad:Al) (c:Nat) (vs:List Aj) (hx:a.eval x=V (M ad) 1 c) (hl:vs.length=size) (k0:∀ j u,vs[j]?=M u->w.cell? (ad.add j)=M u) (h1:∀ u∈vs,u.oneCell'=Aw)
  (d:Nat->Dt) (H:Nat->Nat->Prop) (hv:∀ q,q<size->Ow w B (d q) (vs.getD q O) (H q)) (hH:∀ q x,q<size->H q x->¬ F x) (hE:∀ q q' x,q<size->q'<size->H q x->H q' x->q=q')
  (h0:n+1<=Au) (c0:(n+1)*b0<=140737488355328) (hB:B<=w)
  (h:∀ g cap w',Ow w' B (.lst e size (n+1) (fun i=>if i=n then d else f i)) (V (Addr.mk g 0 I) (n+1) cap) (fun x=>x<w'.1.size/\((F x\/∃ q,q<size/\H q x)\/w.1.size<=x))->Ab B w w'->Trn w w' F->K (a.put o.dst (V (Addr.mk g 0 I) (n+1) cap)) w') :
  o.wp P a w K Q:=by
 obtain⟨a0,cp,cc,G,rfl,d0,e0,hr⟩:=hO;refine wp_append_lies w s x t ho B e i z size b0 ht hi hz f0 i0 m0 g0 _ n _ hs d0 ad 1 c vs hx (by omega) k0 h1 (by omega) h0 c0 hB w rfl fun g cap w' h2 h3 h4 h5=>?_
 have n0:=h3.size;have hk:∀ k,(V a0 n cp).ownBlock=M k->F k/\B<=k/\k<w.1.size:=fun k ek=>by
  cases a0 with
  | none=>cases ek
  | some y=>
   have e1:y.block=k:=by injection ek
   subst e1;exact⟨e0.head y rfl,A0 d0 y.block rfl⟩
 refine h g cap w' (jAc g0 e0 hr hl hv hH hE h2 h3 h4 (fun x hx j0=>⟨by omega,.inl (.inl hx)⟩) (fun q x hq hx j0=>⟨by omega,.inl (.inr ⟨q,hq,hx⟩)⟩) ⟨h5,?_⟩) ((Az _ _).grown h3 hB fun k ek=>(hk k ek).2.1) ⟨h3.os,h3.tape,h3.output,h3.size,fun x hx hn=>h3.block x hx fun ek=>hn (hk x ek.symm).1⟩;rcases h4 with h4|h4
 .exact .inl (.inl (hk g h4).1)
 .exact .inr (by omega)
def jk (k:Nat) (J:Nat->Nat->Aj) (f:Nat->Nat->Dt) (i q:Nat):Dt:=if i<k then .val (J i q) else f (i-k) q
def OwK (w:Ad) (B:Nat) (t:TypeId) (sz n:Nat) (f:Nat->Nat->Dt) (v:Aj) (F:Nat->Prop):Prop:=
 (v=V I 0 0/\n=0)\/∃ (g k cap K:Nat) (J:Nat->Nat->Aj),k+cap<=K/\n<=cap/\v=V (Q g (k*sz) I) n cap/\Ow w B (.lst t sz (k+n) (jk k J f)) (V g (k+n) K) F
theorem OwK.of {w:Ad} {B:Nat} {t:TypeId} {sz n:Nat} {f:Nat->Nat->Dt} {v:Aj} {F:Nat->Prop} (h:Ow w B (.lst t sz n f) v F):OwK w B t sz n f v F:=by
 obtain⟨a,cap,c,G,rfl,ho,hs,hr⟩:=h;rcases jW ho with ⟨rfl,h0,hc⟩|⟨g,a0,rfl,h1,h2,h3⟩
 .exact .inl ⟨by rw[h0,hc],h0⟩
 .refine .inr ⟨g,0,cap,cap,fun _ _=>O,by omega,h3,by rw[Nat.zero_mul],?_⟩;rw[Bq];refine⟨_,cap,c,G,rfl,ho,hs,fun i q hi hq=>?_⟩;unfold jk;rw[A5 (by omega),Nat.sub_zero];exact hr i q hi hq
theorem OwK.shape {w:Ad} {B:Nat} {t:TypeId} {sz n:Nat} {f:Nat->Nat->Dt} {v:Aj} {F:Nat->Prop} (h:OwK w B t sz n f v F):∃ a cap,v=V a n cap/\n<=cap:=by
 rcases h with ⟨rfl,rfl⟩|⟨g,k,cap,K,J,_,h2,rfl,_⟩
 .exact⟨I,0,rfl,Ay _⟩
 .exact⟨_,cap,rfl,h2⟩
theorem OwK.rd {w:Ad} {B:Nat} {t:TypeId} {sz n:Nat} {f:Nat->Nat->Dt} {v:Aj} {F:Nat->Prop} (h:OwK w B t sz n f v F):Rd w (.lst t sz n f) v:=by
 rcases h with ⟨rfl,rfl⟩|⟨g,k,cap,K,J,h1,h2,rfl,hO⟩
 .exact Rd.nil _ _ _ _ _ _
 .have hr:=hO.rd;refine⟨_,cap,rfl,fun i hi=>⟨g,k*sz,rfl,fun q hq=>?_⟩⟩;obtain⟨b,off,y,ea,hy,a0⟩:=hr.row (show k+i<k+n by omega);cases ea;refine⟨y q,?_,?_⟩
  .have:=hy q hq
   rw[Bq,Eu,Ee] at this;exact this
  .have:=a0 q hq
   unfold jk at this;rw[A5 (by omega),show k+i-k=i by omega] at this;exact this
theorem OwK.frame {w w':Ad} {B:Nat} {t:TypeId} {sz n:Nat} {f:Nat->Nat->Dt} {v:Aj} {F:Nat->Prop} (h:OwK w B t sz n f v F) (hF:∀ g,F g->g<w.1.size->w'.1[g]?=w.1[g]?):OwK w' B t sz n f v F:=by
 rcases h with h|⟨g,k,cap,K,J,h1,h2,h3,hO⟩
 .exact .inl h
 .exact .inr ⟨g,k,cap,K,J,h1,h2,h3,hO.frame hF⟩
theorem OwK.below {w w':Ad} {B:Nat} {t:TypeId} {sz n:Nat} {f:Nat->Nat->Dt} {v:Aj} {F:Nat->Prop} (h:OwK w B t sz n f v F) (hb:Ab w w w'):OwK w' B t sz n f v F:=h.frame fun g _ hg=>hb.block g hg
theorem OwK.mono {w:Ad} {B:Nat} {t:TypeId} {sz n:Nat} {f:Nat->Nat->Dt} {v:Aj} {F F':Nat->Prop} (h:OwK w B t sz n f v F) (hF:∀ g,F g->F' g):OwK w B t sz n f v F':=by
 rcases h with h|⟨g,k,cap,K,J,h1,h2,h3,hO⟩
 .exact .inl h
 .exact .inr ⟨g,k,cap,K,J,h1,h2,h3,hO.mono hF⟩
theorem OwK.congr {w:Ad} {B:Nat} {t:TypeId} {sz n:Nat} {f f':Nat->Nat->Dt} {v:Aj} {F:Nat->Prop} (h:OwK w B t sz n f v F) (e:∀ i q,i<n->q<sz->f i q=f' i q):OwK w B t sz n f' v F:=by
 rcases h with h|⟨g,k,cap,K,J,h1,h2,h3,hO⟩
 .exact .inl h
 .refine .inr ⟨g,k,cap,K,J,h1,h2,h3,hO.congr fun i q hi hq=>?_⟩;unfold jk;by_cases c:i<k
  .rw[A6 c,A6 c]
  .rw[A5 c,A5 c];exact e _ _ (by omega) hq
theorem OwK.cut {w:Ad} {B:Nat} {t:TypeId} {sz n:Nat} {f:Nat->Nat->Dt} {v:Aj} {F:Nat->Prop} (h:OwK w B t sz n f v F):OwK w B t sz n f v (fun g=>F g/\B<=g/\g<w.1.size):=by
 rcases h with h|⟨g,k,cap,K,J,h1,h2,h3,hO⟩
 .exact .inl h
 .exact .inr ⟨g,k,cap,K,J,h1,h2,h3,hO.cut⟩
theorem jNm {P:Program} (w:Ad) {o:Oper} {a:Act} {K:Act->Ad->Prop} {Q:Exit->Act->Ad->Prop} (s x:Operand) (t:TypeId)
  (ho:o.op=.call {callee:=.builtin .append,args:=#[s,x],argTypes:=#[t,t]})
  (B:Nat) (e:TypeId) (i:TypeInfo) (z:Aj) (size h0:Nat) (ht:P.underlying t=M (.slice e)) (hi:P.info? e=M i) (hz:i.zero=M z)
  (g0:i.size=size) (z0:i.bytes=h0) (i1:z.cells.size=size) (n0:0<size)
  (v:Aj) (n:Nat) (f:Nat->Nat->Dt) (F:Nat->Prop) (hs:a.eval s=v) (hO:OwK w B e size n f v F)
  (ad:Al) (c:Nat) (vs:List Aj) (hx:a.eval x=V (M ad) 1 c) (hl:vs.length=size) (r0:∀ j u,vs[j]?=M u->w.cell? (ad.add j)=M u) (h1:∀ u∈vs,u.oneCell'=Aw)
  (d:Nat->Dt) (H:Nat->Nat->Prop) (hv:∀ q,q<size->Ow w B (d q) (vs.getD q undef) (H q)) (hH:∀ q x,q<size->H q x->¬ F x) (hE:∀ q q' x,q<size->q'<size->H q x->H q' x->q=q')
  (v1:n+1<=1000000) (i0:(n+1)*h0<=140737488355328) (hB:B<=w)
  (h:∀ v' w',OwK w' B e size (n+1) (fun i=>if i=n then d else f i) v' (fun x=>x<w'.1.size/\((F x\/∃ q,q<size/\H q x)\/w.1.size<=x))->Ab B w w'->Trn w w' F->K (a.put o.dst v') w') :
  o.wp P a w K Q:=by
 rcases hO with ⟨rfl,rfl⟩|⟨g,k,cap,K',J,o1,x1,rfl,hO⟩
 .exact jQj w s x t ho B e i z size h0 ht hi hz g0 z0 i1 n0 (V I 0 0) 0 f F hs (Ow.nil _ _ _ _ _ _) ad c vs hx hl r0 h1 d H hv hH hE (by unfold Au;omega) i0 hB fun g cap w' o b t=>h _ w' (OwK.of o) b t
 obtain⟨a0,cp,cc,G,e0,j0,c0,hr⟩:=hO;cases e0;have t0:F g:=c0.head _ rfl;obtain⟨y0,w1⟩:=A0 j0 g rfl;have s0:Src P size t (V (M ad) 1 c) 1 vs w:=Src.ofSlice w ht ad 1 c vs (by omega) r0 h1;have p0:vs.length=1*size:=by omega
 by_cases hroom:n+1<=cap
 .obtain⟨k0,hR,u0⟩:∃ k0:Array Aj,Row w g e k0/\k0.size=K'*size:=by
   rcases j0.2 with ⟨h9,_⟩|⟨g',t1,k0,h9,_,hg,_,_,u0,_⟩
   .cases h9
   .cases h9;exact⟨k0,hg,u0⟩
  have a1:∀ j,j<vs.length->(k+n)*size+j<k0.size:=fun j hj=>by
   rw[u0];have h9:(k+n+1)*size<=K'*size:=D7 _ (by omega);rw[Eu (k+n)] at h9;omega
  have hc:∀ o9,o9=(k+n)*size->∀ j,j<vs.length->(w.cell? (Addr.mk g (o9+j) I)).isSome=Aw:=fun o9 e9 j hj=>by
   rw[hR.cell (o9+j),e9,C7 (a1 j hj)];rfl
  have hf:∀ o9 j,w.frozen? (Addr.mk g (o9+j) I)=Av:=fun o9 j=>hR.free _
  obtain⟨w2,r1,q0,b0⟩:=run_append_fits (P:=P) w B t o.type e i size ht hi g0 g (k+n) K' (cL size cc (k+n)) j0 ad 1 c vs p0 r0 h1 (by omega);subst g0;have g1:=run_append_room_src (P:=P) w t t o.type e i ht hi g 0 (k+n) K' (V (M ad) 1 c) 1 vs s0 (by omega) (hc _ (by omega)) (fun j _=>hf _ j);have f1:=run_append_room_src (P:=P) w t t o.type e i ht hi g (k*i.size) n cap (V (M ad) 1 c) 1 vs s0 hroom (hc _ (by rw[Eu])) (fun j _=>hf _ j);rw[r1] at g1;injection g1 with _ ew;rw[show k*i.size+n*i.size=0+(k+n)*i.size by rw[Eu,Bq],<-ew] at f1;have u1:=b0.size;unfold Oper.wp execOp;simp only[ho,resolve,invoke,builtin,Fb,Gk,Dy,List.map_toArray,Gz,Ha,hs,hx,f1];refine h _ w2 (.inr ⟨g,k,cap,K',J,o1,hroom,rfl,?_⟩) ((Az _ _).grown b0 hB fun q eq=>by cases eq;exact y0) ⟨b0.os,b0.tape,b0.output,b0.size,fun y hy hn=>b0.block y hy fun ek=>by cases ek;exact hn t0⟩;have O:=jAc (w:=w) (w':=w2) (B:=B) (t:=e) (sz:=i.size) (n:=k+n) (g:=g) (cap:=K') (cp:=K') (a:=M (Addr.mk g 0 I)) (c:=cc) (G:=G) (f:=jk k J f) (F:=F) (F':=fun x=>x<w2.1.size/\((F x\/∃ q,q<i.size/\H q x)\/w.1.size<=x)) (vs:=vs) (d:=d) (H:=H) n0 c0 hr hl hv hH hE q0 b0 (.inl rfl) (fun x hx v0=>⟨by omega,.inl (.inl hx)⟩) (fun q x hq hx v0=>⟨by omega,.inl (.inr ⟨q,hq,hx⟩)⟩) ⟨by omega,.inl (.inl t0)⟩;refine O.congr fun i' q m1 _=>?_
  show (if i'=k+n then d else jk k J f i') q=if i'<k then .val (J i' q) else (if i' - k=n then d else f (i' - k)) q
  unfold jk;by_cases c1:i'<k
  .rw[A5 (by omega),A6 c1,A6 c1]
  .rw[A5 c1];by_cases c2:i'=k+n
   .rw[A6 c2,A6 (by omega)]
   .rw[A5 c2,A5 c1,A5 (by omega)]
 .have x0:Sep (Addr.mk g 0 I) n size (fun i q=>G (k+i) q) F:=⟨c0.head,fun i q x hi hq hx=>c0.sub _ _ _ (by omega) hq hx,fun i q x hi hq ex hx=>c0.apart _ _ _ (by omega) hq ex hx,fun i q i' q' x hi hq m1 p1 hx s1=>by have:=c0.each _ _ _ _ _ (by omega) hq (by omega) p1 hx s1;omega⟩;have q1:∀ i q,i<n->q<size->Ow w B (f i q) (cc (k+i) q) (G (k+i) q):=fun i q hi hq=>by
   have:=hr (k+i) q (by omega) hq
   unfold jk at this;rw[A5 (by omega),show k+i-k=i by omega] at this;exact this
  obtain⟨d0,Ho⟩:∃ l,l=cL size (fun i q=>cc (k+i) q) n:=⟨_,rfl⟩;have f0:d0.length=n*size:=by rw[Ho,jY]
  have w0:∀ j v,d0[j]?=M v->w.cell? (((Addr.mk g (k*size) I):Al).add j)=M v:=fun j v hj=>by
   have n1:j<n*size:=by rw[<-f0];exact(Bz.1 hj).1
   have hd:j / size<n:=(C8 n0).2 n1;have hm:=E7 j n0;have e1:=jT size (fun i q=>cc (k+i) q) n (j / size) (j % size) hd hm;rw[vA,<-Ho,hj] at e1;have e2:=Bt j0 ((k+j / size)*size+j % size) (qM (by omega) hm);rw[jT _ _ _ _ _ (by omega) hm] at e2;rw[Addr.add_lit,e1,<-e2,show k*size+j=(k+j / size)*size+j % size by rw[Eu,Ee,vA]]
  subst g0;subst z0;have k1:=grownCap_ge w (n+1) cap e;have j1:grownCap w (n+1) cap e<=Au:=grownCap_le_maxLen w (n+1) cap e (by unfold Au;omega);have b1:=run_append_grow (P:=P) w t o.type e i z ht hi hz (Addr.mk g (k*i.size) I) n cap d0 f0 w0 ad 1 c vs p0 r0 (by omega) (by omega) (growslice_fits (by omega) i0);obtain⟨w2,o0⟩:∃ x,x=w.drew.alloc (.cells (d0.toArray++vs.toArray++Builtin.zeroCells z.cells (grownCap w (n+1) cap e-(n+1))) e):=⟨_,rfl⟩;rw[<-o0] at b1;have b0:w.grownBy w2 (M g):=by rw[o0];exact⟨rfl,rfl,rfl,by simp,fun q hq _=>Go.heap_alloc_old w.drew _ hq⟩
  have m0:(d0++vs).length=(n+1)*i.size:=by rw[Fd,f0,p0,Eu]
  have q0:w2.ownsRow B e i.size (V (Addr.mk w 0 I) (n+1) (grownCap w (n+1) cap e)) (n+1) (d0++vs):=by
   refine⟨m0,.inr ⟨w.1.size,_,_,rfl,hB,by rw[o0];exact Co w.drew _,k1,j1,?_,?_⟩⟩
   .simp only[Array.size_append,E4,size_zeroCells,i1,f0,p0,<-Eu];congr 1
    omega
   .simp only[Fr,Gg];rw[<-Gg,<-m0];exact List.take_left
  have y1:w2.1.size=w.1.size+1:=by rw[o0];simp
  unfold Oper.wp execOp;simp only[ho,resolve,invoke,builtin,Fb,Gk,Dy,List.map_toArray,Gz,Ha,hs,hx,b1];refine h _ w2 (OwK.of ?_) ((Az _ _).grown b0 hB fun q eq=>by cases eq;exact y0) ⟨b0.os,b0.tape,b0.output,b0.size,fun y hy hn=>b0.block y hy fun ek=>by cases ek;exact hn t0⟩;rw[Ho] at q0;exact jAc (cp:=cap) n0 x0 q1 hl hv hH hE q0 b0 (.inr rfl) (fun x hx v0=>⟨by omega,.inl (.inl hx)⟩) (fun q x hq hx v0=>⟨by omega,.inl (.inr ⟨q,hq,hx⟩)⟩) ⟨by omega,.inr (Ay _)⟩
theorem zZ (b:Nat):∀ (vs us:List Aj) (o:Nat) (w:Ad),w.setCells b o (vs++us)=(w.setCells b o vs).setCells b (o+vs.length) us
 | [],us,o,w=>by simp[World.setCells]
 | v::r,us,o,w=>by
  rw[Fc,World.setCells,World.setCells,zZ b r us (o+1)];congr 1
  simp
  omega
theorem jO3 (sz:Nat) (c:Nat->Nat->Aj) (n:Nat) (hz:0<sz):cL sz c (n+1)=cL sz c n++(List.range sz).map (c n):=by
 rw[jEh sz c n _ hz (by simp)];refine vX fun i q _ hq=>?_
 by_cases e:i=n
 .rw[A6 e,Bw];simp[hq,e]
 .rw[A5 e]
theorem jIt (sz:Nat) (c:Nat->Nat->Aj):cL sz c 0=[]:=by simp[cL]
theorem jO4 (sz:Nat) (c:Nat->Nat->Aj) {m n:Nat} (h:m<=n):(cL sz c n).take (m*sz)=cL sz c m:=by
 unfold cL;rw[<-G0,List.take_range,Nat.min_eq_left (D7 _ h)]
theorem jDj {w:Ad} {B:Nat} {t:TypeId} {sz g m K k:Nat} {cc:Nat->Nat->Aj} (hz:0<sz) (ho:w.ownsRow B t sz (V g m K) m (cL sz cc m)) :
  ∀ j,k+1+j<=m->(w.setCells g ((k+1)*sz) (cL sz (fun i q=>cc (k+i) q) j)).ownsRow B t sz (V g m K) m (cL sz (fun i q=>if k+1<=i/\i<k+1+j then cc (i-1) q else cc i q) m)
 | 0,_=>by
  rw[jIt,World.setCells];have e:cL sz (fun i q=>if k+1<=i/\i<k+1+0 then cc (i-1) q else cc i q) m=cL sz cc m:=vX fun i q _ _=>by rw[A5 (by omega)]
  rw[e];exact ho
 | j+1,h=>by
  have ih:=jDj (k:=k) hz ho j (by omega);rw[jO3 sz _ j hz,zZ,jY,<-Eu];have h1:=qH (sz:=sz) (show k+1+j<m by omega) ((List.range sz).map (fun q=>cc (k+j) q)) 0 _ _ (by simp) ih;rw[Cp] at h1;have e:cL sz (fun i q=>if k+1<=i/\i<k+1+(j+1) then cc (i-1) q else cc i q) m=cL sz (fun i' q'=>if i'=k+1+j/\0<=q' then ((List.range sz).map (fun q=>cc (k+j) q)).getD (q' - 0) O else if k+1<=i'/\i'<k+1+j then cc (i' - 1) q' else cc i' q') m:=vX fun i q _ hq=>by
   by_cases c1:i=k+1+j
   .rw[A6 (by omega),A6 ⟨c1,Bi _⟩,Bw];simp[hq,c1,show k+1+j-1=k+j by omega]
   .by_cases c2:k+1<=i/\i<k+1+j
    .rw[A6 (by omega),A5 (by omega),A6 c2]
    .rw[A5 (by omega),A5 (by omega),A5 c2]
  rw[e];exact h1
theorem Ow.fewer {w:Ad} {B:Nat} {t:TypeId} {sz g m m' K:Nat} {f:Nat->Nat->Dt} {F:Nat->Prop} (h:Ow w B (.lst t sz m f) (V g m K) F) (hm:m'<=m):Ow w B (.lst t sz m' f) (V g m' K) F:=by
 obtain⟨a,cap,c,G,e,ho,hs,hr⟩:=h;cases e;refine⟨_,K,c,G,rfl,⟨jY _ _ _,?_⟩,⟨hs.head,fun i q x hi hq hx=>hs.sub _ _ _ (by omega) hq hx,fun i q x hi hq ex hx=>hs.apart _ _ _ (by omega) hq ex hx,fun i q i' q' x hi hq h0 e0 hx f0=>hs.each _ _ _ _ _ (by omega) hq (by omega) e0 hx f0⟩,fun i q hi hq=>hr i q (by omega) hq⟩;rcases ho.2 with ⟨h9,_⟩|⟨g',g0,b0,h9,hb,hg,hn,c0,d0,a0⟩
 .cases h9
 .cases h9;refine .inr ⟨g,K,b0,rfl,hb,hg,by omega,c0,d0,?_⟩;rw[<-jO4 sz c hm,<-a0,List.take_take,Nat.min_eq_left (D7 _ hm)]
def jNs (g k sz cap:Nat):OA:=if cap=1 then M (Q g (k*sz) I) else M (Q g ((k+1)*sz) I)
theorem OwK.take {w:Ad} {B:Nat} {t:TypeId} {sz n g k cap K:Nat} {J:Nat->Nat->Aj} {f:Nat->Nat->Dt} {F:Nat->Prop} (hz:0<sz) (hk:k+cap<=K) (hn:n<=cap) (hO:Ow w B (.lst t sz (k+n) (jk k J f)) (V g (k+n) K) F) (h1:∀ i q v F',Ow w B (f i q) v F'->v.oneCell'=Aw) {b0:Nat} (ha:b0<n):∃ cs:List Aj,cs.length=b0*sz/\(∀ j v,cs[j]?=M v->w.cell? (Q g (k*sz+j) I)=M v)/\(∀ j,j<cs.length->(w.cell? (Q g ((k+1)*sz+j) I)).isSome=Aw)/\(∀ j,w.frozen? (Q g j I)=Av)/\F g/\B<=g/\(∀ v∈cs,v.oneCell'=Aw)/\OwK (w.setCells g ((k+1)*sz) cs) B t sz (n-1) (fun i=>if i<b0 then f i else f (i+1)) (V (jNs g k sz cap) (n-1) (cap-1)) F:=by
 have p0:=hO;obtain⟨a0,cp,cc,G,e0,ho,hs,hr⟩:=hO;cases e0;have o0:=hs.head _ rfl;obtain⟨r0,x0⟩:=A0 ho g rfl;have c0:∀ i q,i<k+n->q<sz->w.cell? (Q g (i*sz+q) I)=M (cc i q):=fun i q hi hq=>by rw[Bt ho _ (qM hi hq)];exact jT _ _ _ _ _ hi hq
 have d0:∀ j,j<b0*sz->j / sz<b0/\j % sz<sz:=fun j hj=>⟨(C8 hz).2 hj,E7 _ hz⟩
 refine⟨cL sz (fun i q=>cc (k+i) q) b0,jY _ _ _,fun j v hj=>?_,fun j hj=>?_,fun j=>B0 ho j,o0,r0,fun v hv=>?_,?_⟩
 .have h0:j<b0*sz:=by have:=(Bz.1 hj).1;rw[jY] at this;exact this
  obtain⟨h1,h2⟩:=d0 j h0;have e1:=jT sz (fun i q=>cc (k+i) q) b0 (j / sz) (j % sz) h1 h2;rw[vA,hj] at e1;rw[e1,<-c0 (k+j / sz) (j % sz) (by omega) h2,Eu,Ee,vA]
 .rw[jY] at hj;obtain⟨h1,h2⟩:=d0 j hj;rw[show (k+1)*sz+j=(k+1+j / sz)*sz+j % sz by rw[Eu (k+1),Ee,vA],c0 _ _ (by omega) h2];rfl
 .obtain⟨j,hj⟩:=List.getElem?_of_mem hv;have h0:j<b0*sz:=by have:=(Bz.1 hj).1;rw[jY] at this;exact this
  obtain⟨k1,k2⟩:=d0 j h0;have e1:=jT sz (fun i q=>cc (k+i) q) b0 (j / sz) (j % sz) k1 k2;rw[vA,hj] at e1;injection e1 with e1;rw[e1];have h9:=hr (k+j / sz) (j % sz) (by omega) k2;unfold jk at h9;rw[A5 (Nat.not_lt.2 (Nat.le_add_right _ _))] at h9;exact h1 _ _ _ _ h9
 .by_cases c1:cap=1
  .have u0:n=1:=by omega
   have q0:b0=0:=by omega
   subst c1 u0 q0;rw[jIt,World.setCells];refine .inr ⟨g,k,0,K,J,by omega,Ay _,by simp[jNs],?_⟩;refine(Ow.fewer p0 (m':=k+0) (by omega)).congr fun i q hi _=>?_
   unfold jk;rw[A6 (by omega),A6 (by omega)]
  .have j0:=jDj (k:=k) hz ho b0 (by omega);obtain⟨w',Hw⟩:∃ x,x=w.setCells g ((k+1)*sz) (cL sz (fun i q=>cc (k+i) q) b0):=⟨_,rfl⟩;rw[<-Hw] at j0;rw[<-Hw];obtain⟨c2,g0⟩:∃ x:Nat->Nat->Aj,x=fun i q=>if k+1<=i/\i<k+1+b0 then cc (i-1) q else cc i q:=⟨_,rfl⟩
   rw[<-g0] at j0;have ek:k+1+(n-1)=k+n:=by omega
   refine .inr ⟨g,k+1,cap-1,K,c2,by omega,by omega,by simp[jNs,c1],?_⟩;rw[ek];have fr:∀ x,x≠g->w'.1[x]?=w.1[x]?:=fun x hx=>by rw[Hw];exact jE g _ _ w x hx
   have f0:∀ i,k+1<=i->i<k+n->∃ i0,k<=i0/\i0<k+n/\(∀ q,c2 i q=cc i0 q)/\(i0=if i-(k+1)<b0 then i-1 else i):=fun i h1 h2=>by
    by_cases c3:i-(k+1)<b0
    .exact⟨i-1,by omega,by omega,fun q=>by rw[g0];simp only;rw[A6 (by omega)],by rw[A6 c3]⟩
    .exact⟨i,by omega,by omega,fun q=>by rw[g0];simp only;rw[A5 (by omega)],by rw[A5 c3]⟩
   refine⟨_,K,c2,fun i q x=>k+1<=i/\G (if i-(k+1)<b0 then i-1 else i) q x,rfl,j0,⟨hs.head,fun i q x hi hq hx=>?_,fun i q x hi hq ex hx=>?_,fun i q i' q' x hi hq t0 v0 hx k0=>?_⟩,fun i q hi hq=>?_⟩
   .obtain⟨i0,h1,h2,_,e⟩:=f0 i hx.1 hi;rw[<-e] at hx;exact hs.sub _ _ _ h2 hq hx.2
   .obtain⟨i0,h1,h2,_,e⟩:=f0 i hx.1 hi;rw[<-e] at hx;exact hs.apart _ _ _ h2 hq ex hx.2
   .obtain⟨i0,h1,h2,_,e⟩:=f0 i hx.1 hi;obtain⟨i1,h3,h4,_,e'⟩:=f0 i' k0.1 t0;have n0:=hx.2;have m0:=k0.2;rw[<-e] at n0;rw[<-e'] at m0;have:=hs.each _ _ _ _ _ h2 hq h4 v0 n0 m0
    have hA:=hx.1;have w0:=k0.1;refine⟨?_,this.2⟩;split at e <;> split at e' <;> omega
   .unfold jk;by_cases c3:i<k+1
    .rw[A6 c3];rfl
    .rw[A5 c3];obtain⟨i0,h1,h2,e2,e⟩:=f0 i (by omega) hi;have h9:=hr i0 q h2 hq;unfold jk at h9;rw[A5 (by omega)] at h9;have s0:=h9.frame fun x hx _=>fr x (fun ex=>hs.apart _ _ _ h2 hq rfl (by subst ex;exact hx))
     have e3:(if i-(k+1)<b0 then f (i-(k+1)) else f (i-(k+1)+1)) q=f (i0-k) q:=by
      by_cases c4:i-(k+1)<b0
      .rw[A6 c4] at e |-;rw[e,show i-1-k=i-(k+1) by omega]
      .rw[A5 c4] at e |-;rw[e,show i-k=i-(k+1)+1 by omega]
     show Ow w' B ((if i-(k+1)<b0 then f (i-(k+1)) else f (i-(k+1)+1)) q) (c2 i q) _;rw[e3,e2 q];refine s0.mono fun x hx=>⟨by omega,?_⟩
     rw[<-e];exact hx
theorem jAi {P:Program} (w:Ad) (dT sT ty b0:TypeId) (b o a0 d0:Nat) (a:Al) (c0 f0 size:Nat) (cs:List Aj) (hu:P.underlying dT=M (.slice b0)) (hs:(P.info? b0).map (·.size)=M size) (hn:cs.length=Nat.min c0 a0*size) (e0:∀ j v,cs[j]?=M v->w.cell? (a.add j)=M v) (hc:∀ j,j<cs.length->(w.cell? (Q b (o+j) I)).isSome=Aw) (hf:∀ j,j<cs.length->w.frozen? (Q b (o+j) I)=Av) (h1:∀ v∈cs,v.oneCell'=Aw):(Builtin.copy_ #[dT,sT] ty #[V (Q b o I) a0 d0,V (M a) c0 f0]).run P w=.ok (goInt (Nat.min c0 a0:Nat)) (w.setCells b o cs):=by
 have hl:=run_loadCells_list (P:=P) w a cs e0;have g0:=run_storeCells_cells (P:=P) b o cs 0 w (by simpa using hc) (by simpa using hf) h1;cases hq:P.info? b0 with
 | none=>simp[hq] at hs
 | some i=>
  have hi:i.size=size:=by simpa [hq] using hs
  simp[Builtin.copy_,Fh hu,Builtin.lenOf,Builtin.firstCells,sizeOf,typeInfo,hq,hi,<-hn,hl,g0]
end Go.Proofs.YtcaejlalnjnifaaGreat
